package line

import (
	"strings"

	"postern/api"
	"postern/octet"
)

const (
	noneInNotes  = "\n\r"
	noneInFields = noneInNotes + betweenFields + aheadOfNote
)

// Print is a line as a text.
func Print(l api.Line) (string, api.Errno) {
	if !mayBePrinted(l) {
		return "", api.ErrArg
	}
	s := strings.Join(l.Fields, betweenFields+" ")
	if l.Note != "" {
		s += " " + aheadOfNote + " " + l.Note
	}
	return s + lineEnd, api.OK
}

// mayBePrinted tells whether what is printed would be read as the same line again.
func mayBePrinted(l api.Line) bool {
	if len(l.Fields) == 0 || len(l.Fields) == 1 && l.Fields[0] == "" {
		return false
	}
	for _, f := range l.Fields {
		if !isLeftWhole(f, noneInFields) {
			return false
		}
	}
	return isLeftWhole(l.Note, noneInNotes)
}

// isLeftWhole tells whether a text has none of some bytes, and no blank at its ends.
func isLeftWhole(s, none string) bool {
	return !strings.ContainsAny(s, none) && trimmed(s) == s
}

// Tell is code points as a text.
func Tell(r []rune) (string, api.Errno) {
	var b strings.Builder
	for i, p := range r {
		if p < 0 || p > api.MaxPoint {
			return "", api.ErrPoint
		}
		if i > 0 {
			b.WriteByte(space)
		}
		b.WriteString(written(p))
	}
	return b.String(), api.OK
}

// written is a code point as a number to the base 16.
func written(p rune) string {
	s, _ := octet.Print(uint64(p), 16)
	return strings.Repeat("0", max(fewestOfPoint-len(s), 0)) + octet.Upper(s)
}
