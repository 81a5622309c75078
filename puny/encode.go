package puny

import (
	"cmp"
	"slices"
	"unicode/utf8"

	"postern/api"
)

// encode is a name by parameters that may be.
func encode(p api.Boot, l []rune) (string, int, api.Errno) {
	if at := slices.IndexFunc(l, func(c rune) bool { return !utf8.ValidRune(c) }); at >= 0 {
		return "", at, api.ErrScalar
	}
	if at := slices.IndexFunc(l, func(c rune) bool { return int(c) < p.First && !basic(p, int(c)) }); at >= 0 {
		return "", at, api.ErrBasic
	}
	s, ok := written(p, l)
	if !ok {
		return "", 0, api.ErrPuny
	}
	return s, 0, api.OK
}

// written is a name of code points that can be encoded; false: a number is too great.
func written(p api.Boot, l []rune) (string, bool) {
	out, others, there := apart(p, l)
	points := len(l) - len(others)
	n, i, bias := p.First, 0, p.Bias
	for done, at := range others {
		points++
		// Where the chapter walks through the list and counts delta up, i is reckoned from how many stand ahead, as decoding will have it.
		c, place := int(l[at]), there.ahead(at)
		next := (c-n)*points + place
		delta := next - i
		// Delta is not above what i becomes in decoding, so that this is asked of both.
		if next > api.MaxPuny {
			return "", false
		}
		var ok bool
		if out, ok = appendNumber(p, out, delta, bias); !ok {
			return "", false
		}
		bias = adapt(p, delta, points, done == 0)
		n, i = c, place+1
		there.change(at, 1)
	}
	return string(out), true
}

// apart is the basic code points as they are written, the places of the others in the order in which they are written, and marks where the basic ones stand.
func apart(p api.Boot, l []rune) ([]byte, []int, marks) {
	var out []byte
	var others []int
	there := newMarks(len(l))
	for at, c := range l {
		if basic(p, int(c)) {
			out = append(out, byte(c))
			there.change(at, 1)
		} else {
			others = append(others, at)
		}
	}
	if len(out) > 0 {
		out = append(out, p.Between)
	}
	slices.SortStableFunc(others, func(a, b int) int { return cmp.Compare(l[a], l[b]) })
	return out, others, there
}

// appendNumber appends a number as digits; false: w would become too great when they are read.
func appendNumber(p api.Boot, out []byte, q, bias int) ([]byte, bool) {
	w := 1
	for k := p.Base; ; k += p.Base {
		t := threshold(p, k, bias)
		if q < t {
			return appendDigit(out, q), true
		}
		rest := p.Base - t
		out = appendDigit(out, t+(q-t)%rest)
		q = (q - t) / rest
		w *= rest
		if w > api.MaxPuny {
			return nil, false
		}
	}
}

func appendDigit(out []byte, d int) []byte {
	c, _ := Letter(d)
	return append(out, c)
}
