package label

import (
	"slices"

	"postern/api"
	"postern/book"
	"postern/compose"
	"postern/joiner"
	"postern/mapping"
	"postern/puny"
)

// has tells whether a label has one of the faults that any label may have.
func has(t *book.Tables, l []rune, fault int) bool {
	switch fault {
	case api.FaultForm:
		return !compose.Is(t, l)
	case api.FaultPrefix:
		return Coded(l)
	case api.FaultStop:
		return slices.Contains(l, stop)
	case api.FaultMark:
		return len(l) > 0 && t.Mark(l[0])
	case api.FaultStatus:
		return !mapping.Closed(t, l...)
	case api.FaultJoiner:
		return joiner.Check(t, l) >= 0
	}
	return false
}

// firstOf is the first of a label's faults, 0 if it has none.
func firstOf(t *book.Tables, l []rune) int {
	for fault := api.FaultForm; fault <= api.FaultJoiner; fault++ {
		if has(t, l, fault) {
			return fault
		}
	}
	return 0
}

// behindPrefix is what a coded label says, and what is wrong with what stands behind its prefix, 0 if nothing is.
func behindPrefix(l []rune) ([]rune, int) {
	if !isASCII(l) {
		return slices.Clone(l), api.FaultASCII
	}
	says, _, e := puny.Decode(string(l[len(prefix):]))
	switch {
	case e != api.OK:
		return slices.Clone(l), api.FaultPuny
	case isASCII(says):
		// Nothing at all is ASCII alone, too.
		return says, api.FaultPlain
	}
	return says, 0
}

func isASCII(l []rune) bool {
	return !slices.ContainsFunc(l, func(p rune) bool { return p < 0 || p > lastASCII })
}
