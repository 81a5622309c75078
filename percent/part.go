package percent

import (
	"iter"

	"postern/api"
	"postern/octet"
)

// codedSize is how many bytes write a coded byte.
const codedSize = 3

// part is a coded byte, a stray percent sign, or another byte that stands for itself; each says one byte.
type part struct {
	at, size     int
	says         byte
	coded, stray bool
}

// parts goes through the parts of a text, from its front on.
func parts(s string) iter.Seq[part] {
	return func(yield func(part) bool) {
		at := 0
	next:
		if at == len(s) {
			return
		}
		p := partAt(s, at)
		at += p.size
		if yield(p) {
			goto next
		}
	}
}

// partAt is the part that begins at a byte that the text has.
func partAt(s string, at int) part {
	if s[at] != '%' {
		return part{at: at, size: 1, says: s[at]}
	}
	if b, ok := codedByte(s[at:]); ok {
		return part{at: at, size: codedSize, says: b, coded: true}
	}
	return part{at: at, size: 1, says: '%', stray: true}
}

// codedByte is what the coded byte at the front of a text says, if the percent sign there has its two digits.
func codedByte(s string) (byte, bool) {
	if len(s) < codedSize {
		return 0, false
	}
	n, _, e := octet.Number(s[1:codedSize], 16)
	return byte(n), e == api.OK
}
