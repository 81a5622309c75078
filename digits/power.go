package digits

// far is a size from which on a difference of powers is no longer told exactly: it is beyond all that counts, a text's length added, and ten times as much stays within an int of 32 bits.
const far = 100000000

// power is the power that a text names, as great as it likes; without digits it is 0.
type power struct {
	neg    bool
	digits string
}

// apart is a less b, or a number of its sign and not below far in size.
func apart(a, b power) int {
	n, places := 0, max(len(a.digits), len(b.digits))
	for i := range places {
		// A difference that is far by its first places only goes farther by the others.
		if n > -far && n < far {
			n = 10*n + a.at(places-1-i) - b.at(places-1-i)
		}
	}
	return n
}

// at is the digit so many places ahead of the last one, with the sign.
func (p power) at(place int) int {
	if place >= len(p.digits) {
		return 0
	}
	digit := int(p.digits[len(p.digits)-1-place] - '0')
	if p.neg {
		return -digit
	}
	return digit
}
