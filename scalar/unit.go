package scalar

import (
	"cmp"
	"slices"
	"strings"

	"postern/api"
)

// UTF-16 writes a scalar value from firstPaired on as a high unit and a low one behind it, with ten bits each.
const (
	firstHigh   = 0xD800
	firstLow    = 0xDC00
	behindLow   = 0xE000
	firstPaired = 0x10000
	bitsOfUnit  = 10
)

// Units is UTF-16 of scalar values, or the place of the first one that is none.
func Units(l []rune) ([]uint16, int, api.Errno) {
	if at := firstWrong(l); at >= 0 {
		return nil, at, api.ErrScalar
	}
	var units []uint16
	for _, r := range l {
		units = appendUnits(units, r)
	}
	return units, 0, api.OK
}

// FromUnits is what UTF-16 units say.
func FromUnits(l []uint16) []rune {
	var d UnitDecoder
	told := d.Feed(l)
	return append(told, d.End()...)
}

// Compare is the order of what two texts say, by their units.
func Compare(a, b string) int {
	for a != "" && b != "" {
		p, q := pieceAt(a, 0), pieceAt(b, 0)
		if p.Rune != q.Rune {
			return slices.Compare(appendUnits(nil, p.Rune), appendUnits(nil, q.Rune))
		}
		a, b = a[p.Size:], b[q.Size:]
	}
	// What is left of one of them at most goes on behind the other.
	return cmp.Compare(len(a), len(b))
}

// Escape is what a text says, in ASCII.
func Escape(s string) string {
	var b strings.Builder
	for p := range each(s) {
		if ' ' <= p.Rune && p.Rune <= '~' && p.Rune != '\\' {
			b.WriteByte(byte(p.Rune))
			continue
		}
		for _, u := range appendUnits(nil, p.Rune) {
			b.WriteString(escapeUnit(u))
		}
	}
	return b.String()
}

func escapeUnit(u uint16) string {
	const digits = "0123456789abcdef"
	return string([]byte{'\\', 'u', digits[u>>12], digits[u>>8&15], digits[u>>4&15], digits[u&15]})
}

// appendUnits puts the units of a scalar value behind others.
func appendUnits(units []uint16, r rune) []uint16 {
	if unitCount(r) == 1 {
		return append(units, uint16(r))
	}
	bits := r - firstPaired
	return append(units, uint16(firstHigh+bits>>bitsOfUnit), uint16(firstLow+bits&(1<<bitsOfUnit-1)))
}

// unitCount is how many units a scalar value has.
func unitCount(r rune) int {
	if r < firstPaired {
		return 1
	}
	return 2
}

// UnitDecoder reads UTF-16 in pieces.
type UnitDecoder struct {
	high uint16 // the high unit that is held back; 0, which is none, if nothing is
}

// NewUnitDecoder is a UnitDecoder to which nothing was fed.
func NewUnitDecoder() *UnitDecoder { return &UnitDecoder{} }

// Feed is what is sure to stay of the units that were fed so far, and was not told yet.
func (d *UnitDecoder) Feed(l []uint16) []rune {
	if d == nil {
		return nil
	}
	var told []rune
	for _, u := range l {
		if d.high != 0 && isLow(u) {
			told = append(told, joined(d.high, u))
			d.high = 0
			continue
		}
		told = append(told, d.End()...)
		switch {
		case isHigh(u):
			d.high = u
		case isLow(u):
			told = append(told, replacement)
		default:
			told = append(told, rune(u))
		}
	}
	return told
}

// End is what the unit that is held back says; the UnitDecoder is as new then.
func (d *UnitDecoder) End() []rune {
	if d == nil || d.high == 0 {
		return nil
	}
	d.high = 0
	return []rune{replacement}
}

// Held is the unit that is held back, and whether one is.
func (d *UnitDecoder) Held() (uint16, bool) {
	if d == nil {
		return 0, false
	}
	return d.high, d.high != 0
}

func isHigh(u uint16) bool { return firstHigh <= u && u < firstLow }

func isLow(u uint16) bool { return firstLow <= u && u < behindLow }

// joined is the scalar value of a high unit and the low one behind it.
func joined(high, low uint16) rune {
	return firstPaired + rune(high-firstHigh)<<bitsOfUnit + rune(low-firstLow)
}
