package puny

import (
	"strings"

	"postern/api"
)

// put is a code point and its place among those that are there when it is put in.
type put struct {
	point rune
	place int
}

// decode is the name that a text says by parameters that may be.
func decode(p api.Boot, s string) ([]rune, int, api.Errno) {
	ahead, from := "", 0
	if at := strings.LastIndexByte(s, p.Between); at > 0 {
		ahead, from = s[:at], at+1
	}
	for at := range len(ahead) {
		if !basic(p, int(ahead[at])) {
			return nil, at, api.ErrBasic
		}
	}
	puts, at, e := read(p, s, from, len(ahead))
	if e != api.OK {
		return nil, at, e
	}
	return laid(ahead, puts), 0, api.OK
}

// read is what the digits of a text from a place on put in, where so many points are there already; or the place of what is wrong first.
func read(p api.Boot, s string, from, points int) ([]put, int, api.Errno) {
	var puts []put
	n, i, bias := p.First, 0, p.Bias
	for from < len(s) {
		points++
		next, last, e := readNumber(p, s, from, i, bias)
		if e != api.OK {
			return nil, last, e
		}
		bias = adapt(p, next-i, points, i == 0)
		n += next / points
		if n > api.MaxPoint {
			return nil, last, api.ErrPuny
		}
		if surrogate(n) {
			return nil, last, api.ErrSurrogate
		}
		place := next % points
		puts = append(puts, put{rune(n), place})
		i, from = place+1, last+1
	}
	return puts, 0, api.OK
}

// readNumber is what i becomes by the number whose digits begin at a place, and the place of the last one of them; or that of what is wrong.
func readNumber(p api.Boot, s string, at, i, bias int) (int, int, api.Errno) {
	w := 1
	for k := p.Base; at < len(s); k += p.Base {
		d := digitTo(p.Base, s[at])
		if d < 0 {
			return 0, at, api.ErrDigits
		}
		i += d * w
		if i > api.MaxPuny {
			return 0, at, api.ErrPuny
		}
		t := threshold(p, k, bias)
		if d < t {
			return i, at, api.OK
		}
		w *= p.Base - t
		if w > api.MaxPuny {
			return 0, at, api.ErrPuny
		}
		at++
	}
	return 0, len(s), api.ErrDigits
}

func surrogate(n int) bool { return within(n, 0xd800, 0xdfff) }

// laid is the basic ones with all that is put in between them.
func laid(ahead string, puts []put) []rune {
	out := make([]rune, len(ahead)+len(puts))
	free := allMarks(len(out))
	// The last one stands where it was put in, and each one ahead of it has its place among those that are left then.
	for i := len(puts) - 1; i >= 0; i-- {
		at := free.find(puts[i].place)
		free.change(at, -1)
		out[at] = puts[i].point
	}
	next := 0
	for at := range out {
		// What is put in is First or above, so that 0 says that nothing was.
		if out[at] == 0 {
			out[at] = rune(ahead[next])
			next++
		}
	}
	return out
}
