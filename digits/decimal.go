package digits

import (
	"cmp"
	"strconv"
	"strings"

	"postern/api"
	"postern/real"
)

// reach is a power of ten that brings, on its side, every number past the ends of all floats: to nought or to infinite.
const reach = 400

// decimal is a number from 0 on: 0.d * 10^point, with the digits d without noughts at both ends; 0 has no digits.
type decimal struct {
	digits string
	point  int
}

// decimalOf is mant * 2^exp.
func decimalOf(mant uint64, exp int) decimal {
	if mant == 0 {
		return decimal{}
	}
	// A half is five tenths: what stands behind the point has as many decimal places as binary ones.
	digits := whole{mant}.shifted(max(exp, 0)).timesFives(max(-exp, 0)).text()
	return decimal{digits: trimmed(digits), point: len(digits) + min(exp, 0)}
}

// written is what the digits of a text say by their point, without the power.
func (t text) written() decimal {
	ahead := strings.TrimLeft(t.whole+t.fraction, "0")
	return decimal{digits: trimmed(ahead), point: len(ahead) - len(t.fraction)}
}

// number is what a text says; a power beyond far in size is not told exactly.
func (t text) number() decimal {
	d := t.written()
	d.point += apart(t.power, power{})
	return d
}

// near is the float nearest to so many bits of the number; the last of them tells whether there are more.
func (d decimal) near(bits int) float64 {
	exp := min(max(d.point, -reach), reach) - len(d.digits)
	mant, shift := quotient(wholeOf(d.digits).timesFives(max(exp, 0)), whole{1}.timesFives(max(-exp, 0)), bits)
	return real.Near(mant, exp+shift)
}

// compare tells which of two numbers is less; none is 0.
func (d decimal) compare(other decimal) int {
	if d.point != other.point {
		return cmp.Compare(d.point, other.point)
	}
	return cmp.Compare(d.digits, other.digits)
}

// rounded is the number rounded to its first n digits, of two equally near to the one whose last digit is even.
func (d decimal) rounded(n int) decimal {
	switch {
	case n >= len(d.digits):
		return d
	case n < 0:
		return decimal{}
	}
	rest, odd := d.digits[n:], n > 0 && d.digits[n-1]%2 == 1
	if rest > "5" || rest == "5" && odd {
		return d.up(n)
	}
	return d.down(n)
}

// down is the first n digits of the number.
func (d decimal) down(n int) decimal {
	kept := trimmed(d.digits[:n])
	if kept == "" {
		return decimal{}
	}
	return decimal{digits: kept, point: d.point}
}

// up is the first n digits of the number, and one more at the last of them.
func (d decimal) up(n int) decimal {
	kept := strings.TrimRight(d.digits[:n], "9")
	if kept == "" {
		return decimal{digits: "1", point: d.point + 1}
	}
	last := len(kept) - 1
	return decimal{digits: kept[:last] + string([]byte{kept[last] + 1}), point: d.point}
}

// at is the digit at a place, from the first digit on; beyond the digits are noughts on both sides.
func (d decimal) at(place int) byte {
	if place < 0 || place >= len(d.digits) {
		return '0'
	}
	return d.digits[place]
}

// plain is the number with so many places behind the point; it has no more.
func (d decimal) plain(places int) string {
	var l []byte
	for i := range d.point {
		l = append(l, d.at(i))
	}
	if len(l) == 0 {
		l = append(l, '0')
	}
	if places > 0 {
		l = append(l, '.')
	}
	for i := range places {
		l = append(l, d.at(d.point+i))
	}
	return string(l)
}

// inFull is the number with the places that it has.
func (d decimal) inFull() string { return d.plain(max(len(d.digits)-d.point, 0)) }

// scientific is the number with so many digits and a power of ten; it has no more.
func (d decimal) scientific(digits int) string {
	l := []byte{d.at(0)}
	if digits > 1 {
		l = append(l, '.')
	}
	for i := range digits - 1 {
		l = append(l, d.at(1+i))
	}
	power := 0
	if d.digits != "" {
		power = d.point - 1
	}
	return string(l) + "e" + withPlus(power)
}

// laid is the number laid out.
func (d decimal) laid() string {
	if d.point >= -5 && d.point <= 21 {
		return d.inFull()
	}
	return d.scientific(len(d.digits))
}

// format is a size of floats: the fraction's bits, and the power of two of the lowest bit of the least ones.
type format struct{ fraction, lowest int }

// shortest is the shortest digits of a float.
func shortest(p api.Float, f format) decimal {
	exact := decimalOf(p.Mant, p.Exp)
	if p.Mant == 0 {
		return exact
	}
	below := uint64(2)
	// Below a power of two the floats are twice as near, but for the least of all steps.
	if p.Mant == 1<<f.fraction && p.Exp > f.lowest {
		below = 1
	}
	low, high := decimalOf(4*p.Mant-below, p.Exp-2), decimalOf(4*p.Mant+2, p.Exp-2)
	// Halfway to a neighbour is rounded to the float whose lowest bit is 0.
	odd := int(p.Mant % 2)
	within := func(d decimal) bool { return d.compare(low) >= odd && high.compare(d) >= odd }
	for i := range len(exact.digits) - 1 {
		if near := exact.rounded(i + 1); within(near) {
			return near
		}
		// Above a float there is never less room than below it: if the nearest decimal is too far, none but the next one above may do.
		if up := exact.up(i + 1); within(up) {
			return up
		}
	}
	return exact
}

// trimmed is digits without noughts at their end.
func trimmed(digits string) string { return strings.TrimRight(digits, "0") }

// withPlus is a power with its sign, + too.
func withPlus(power int) string {
	if power < 0 {
		return strconv.Itoa(power)
	}
	return "+" + strconv.Itoa(power)
}
