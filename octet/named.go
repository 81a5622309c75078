package octet

import "postern/api"

// Named is a set that the standard names.
func Named(name int) (api.Bytes, api.Errno) {
	switch name {
	case api.SetControl:
		return controlSet(), api.OK
	case api.SetFragment:
		return fragmentSet(), api.OK
	case api.SetQuery:
		return querySet(), api.OK
	case api.SetSpecialQuery:
		return specialQuerySet(), api.OK
	case api.SetPath:
		return pathSet(), api.OK
	case api.SetUser:
		return userSet(), api.OK
	case api.SetComponent:
		return componentSet(), api.OK
	case api.SetForm:
		return formSet(), api.OK
	case api.SetHost:
		return hostSet(), api.OK
	case api.SetDomain:
		return domainSet(), api.OK
	}
	return api.Bytes{}, api.ErrName
}

// Each named set below is told by the one that it has all of, as the standard tells it.

func controlSet() api.Bytes { return Union(Make(0, 31), Make(127, 255)) }

func fragmentSet() api.Bytes { return plus(controlSet(), ' ', '"', '<', '>', '`') }

func querySet() api.Bytes { return plus(controlSet(), ' ', '"', '#', '<', '>') }

func specialQuerySet() api.Bytes { return plus(querySet(), '\'') }

func pathSet() api.Bytes { return plus(querySet(), '?', '^', '`', '{', '}') }

func userSet() api.Bytes {
	return plus(pathSet(), '/', ':', ';', '=', '@', '[', '\\', ']', '|')
}

func componentSet() api.Bytes { return plus(userSet(), '$', '%', '&', '+', ',') }

func formSet() api.Bytes { return plus(componentSet(), '!', '\'', '(', ')', '~') }

func hostSet() api.Bytes {
	return plus(api.Bytes{}, 0, 9, 10, 13, ' ', '#', '/', ':', '<', '>', '?', '@', '[', '\\', ']', '^', '|')
}

func domainSet() api.Bytes { return Union(hostSet(), Make(0, 31, '%', 127)) }
