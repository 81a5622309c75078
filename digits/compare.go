package digits

import (
	"cmp"
	"strconv"

	"postern/api"
)

// maxPower is the greatest power, in size, that Normal tells.
const maxPower = 1000000

// Normal is what a decimal text says, without a loss.
func Normal(s string) (string, int, api.Errno) {
	t, at, e := readDecimal(s)
	switch {
	case e != api.OK:
		return "", at, e
	case t.word == none:
		return none, 0, api.OK
	case t.word == infinite:
		return signed(infinite, t.neg), 0, api.OK
	}
	d := t.number()
	if d.digits == "" {
		return signed("0e0", t.neg), 0, api.OK
	}
	power := min(max(d.point-len(d.digits), -maxPower), maxPower)
	return signed(d.digits+"e"+strconv.Itoa(power), t.neg), 0, api.OK
}

// Compare tells whether what a says is less than, the same as or greater than what b says.
func Compare(a, b string) (int, api.Errno) {
	t, _, e := readDecimal(a)
	u, _, f := readDecimal(b)
	if e != api.OK || f != api.OK || t.word == none || u.word == none {
		return 0, api.ErrDecimal
	}
	if t.sign() != u.sign() {
		return cmp.Compare(t.sign(), u.sign()), api.OK
	}
	return t.sign() * compareSizes(t, u), api.OK
}

// sign is -1 below 0, 0 of both noughts, 1 above.
func (t text) sign() int {
	switch {
	case t.word == "" && t.written().digits == "":
		return 0
	case t.neg:
		return -1
	}
	return 1
}

// compareSizes tells which of two texts says more, without the signs; both or none say 0.
func compareSizes(t, u text) int {
	switch {
	case t.word == u.word && t.word == infinite:
		return 0
	case t.word == infinite:
		return 1
	case u.word == infinite:
		return -1
	}
	d, other := t.written(), u.written()
	// How far the powers are apart is told exactly wherever the points can make up for it.
	d.point += apart(t.power, u.power)
	return d.compare(other)
}
