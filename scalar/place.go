package scalar

import (
	"strings"

	"postern/api"
)

// Position is where a byte of a text stands, or the text's end.
func Position(s string, at int) (api.Position, api.Errno) {
	if at < 0 || at > len(s) {
		return api.Position{}, api.ErrPlace
	}
	var where api.Position
	for p := range each(s) {
		if p.At >= at {
			break
		}
		where.Column++
		where.Point++
		where.Unit += unitCount(p.Rune)
		if endsLine(s, p.At) {
			where.Line++
			where.Column = 0
		}
	}
	return where, api.OK
}

// Unit is the place where the piece begins that has a unit; how many units there are stands for the text's end.
func Unit(s string, unit int) (int, api.Errno) {
	if unit < 0 {
		return 0, api.ErrPlace
	}
	left := unit
	for p := range each(s) {
		n := unitCount(p.Rune)
		if left < n {
			return p.At, api.OK
		}
		left -= n
	}
	if left > 0 {
		return 0, api.ErrPlace
	}
	return len(s), api.OK
}

// Count is how many pieces a text has, and how many units they say.
func Count(s string) (int, int) {
	pieces, units := 0, 0
	for p := range each(s) {
		pieces++
		units += unitCount(p.Rune)
	}
	return pieces, units
}

// Lines is what stands between the line ends of a text.
func Lines(s string) []string {
	var l []string
	from := 0
	for at := range len(s) {
		if endsLine(s, at) {
			l = append(l, line(s[from:at]))
			from = at + 1
		}
	}
	return append(l, line(s[from:]))
}

// line is what a line has, by what stands ahead of the byte that ends it: a 13 there belongs to the end, for any other would have ended the line itself.
func line(s string) string {
	// A copy, so that a line does not hold on to the whole text.
	return strings.Clone(strings.TrimSuffix(s, "\r"))
}

// endsLine is whether a byte is the last one of a line end.
func endsLine(s string, at int) bool {
	switch s[at] {
	case '\n':
		return true
	case '\r':
		return !strings.HasPrefix(s[at+1:], "\n")
	}
	return false
}
