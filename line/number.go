package line

import (
	"strings"

	"postern/api"
	"postern/digits"
	"postern/octet"
)

const (
	// fewestOfPoint and mostOfPoint are how many digits a code point is written with.
	fewestOfPoint = 4
	mostOfPoint   = 6
	// mostOfWhole is how many digits a number has at most.
	mostOfWhole = 9

	betweenEnds = ".."
	below       = "-"
	space       = ' '
)

// Point is a code point.
func Point(s string) (rune, api.Errno) {
	if len(s) < fewestOfPoint || len(s) > mostOfPoint {
		return 0, api.ErrPoint
	}
	n, _, e := octet.Number(s, 16)
	if e != api.OK || n > api.MaxPoint {
		return 0, api.ErrPoint
	}
	return rune(n), api.OK
}

// Range is a span.
func Range(s string) (api.Span, api.Errno) {
	first, second, two := strings.Cut(s, betweenEnds)
	if !two {
		second = first
	}
	from, e := Point(first)
	to, f := Point(second)
	if e != api.OK || f != api.OK || from > to {
		return api.Span{}, api.ErrRange
	}
	return api.Span{From: from, To: to}, api.OK
}

// Sequence is code points, or the place of the first word that is none.
func Sequence(s string) ([]rune, int, api.Errno) {
	var points []rune
	for word := range strings.FieldsFuncSeq(s, isSpace) {
		p, e := Point(word)
		if e != api.OK {
			return nil, len(points), e
		}
		points = append(points, p)
	}
	return points, 0, api.OK
}

// isSpace leaves tabs out: they part no words.
func isSpace(p rune) bool { return p == space }

// Whole is a number.
func Whole(s string) (int, api.Errno) {
	size, isBelow := strings.CutPrefix(s, below)
	if len(size) > mostOfWhole {
		return 0, api.ErrWhole
	}
	n, _, e := octet.Number(size, 10)
	if e != api.OK {
		return 0, api.ErrWhole
	}
	if isBelow {
		return -int(n), api.OK
	}
	return int(n), api.OK
}

// Real is a floating-point number.
func Real(s string) (float64, api.Errno) {
	x, _, e := digits.Parse(s)
	if e != api.OK {
		return 0, api.ErrFloat
	}
	return x, api.OK
}

// Real32 is a floating-point number of 32 bits.
func Real32(s string) (float32, api.Errno) {
	x, _, e := digits.Parse32(s)
	if e != api.OK {
		return 0, api.ErrFloat
	}
	return x, api.OK
}
