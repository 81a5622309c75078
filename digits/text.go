package digits

import (
	"strings"

	"postern/api"
)

const (
	infinite = "inf"
	none     = "nan"

	tenDigits = "0123456789"
	// sixteenDigits has the great letters behind the small ones.
	sixteenDigits = tenDigits + "abcdef" + "ABCDEF"
)

// text is what stands in a decimal text, or in one to the base 16.
type text struct {
	neg             bool
	word            string // infinite or none; of these there is nothing else
	whole, fraction string // the digits on both sides of the point
	power           power
}

// readDecimal takes a decimal text apart, or tells the place of its fault.
func readDecimal(s string) (text, int, api.Errno) { return read(s, (*cursor).decimal) }

// readHex takes a text to the base 16 apart, or tells the place of its fault.
func readHex(s string) (text, int, api.Errno) { return read(s, (*cursor).hex) }

func read(s string, grammar func(*cursor, *text) bool) (text, int, api.Errno) {
	if len(s) > api.MaxDecimal {
		return text{}, api.MaxDecimal, api.ErrLong
	}
	c, t := cursor{s: s}, text{}
	if !grammar(&c, &t) || c.at < len(s) {
		return text{}, c.at, api.ErrDecimal
	}
	return t, 0, api.OK
}

// cursor walks through a text. It never passes a byte that may not stand there: where it stops short is the place of the fault.
type cursor struct {
	s  string
	at int
}

// decimal reads a decimal text and tells whether nothing of it is lacking.
func (c *cursor) decimal(t *text) bool {
	t.neg = c.minus()
	switch {
	case c.take("i"):
		t.word = infinite
		return c.letters(infinite[1:])
	case c.take("n"):
		t.word = none
		return c.letters(none[1:])
	}
	if !c.point(t, tenDigits) {
		return false
	}
	return !c.take("eE") || c.power(t)
}

// hex reads a text to the base 16 and tells whether nothing of it is lacking.
func (c *cursor) hex(t *text) bool {
	t.neg = c.minus()
	return c.take("0") && c.take("xX") && c.point(t, sixteenDigits) && c.take("pP") && c.power(t)
}

// point reads digits with a point or without, one digit at least.
func (c *cursor) point(t *text, of string) bool {
	t.whole = c.digits(of)
	if c.take(".") {
		t.fraction = c.digits(of)
	}
	return t.whole != "" || t.fraction != ""
}

// power reads a sign, or none, and digits, one at least.
func (c *cursor) power(t *text) bool {
	t.power.neg = c.minus()
	t.power.digits = c.digits(tenDigits)
	return t.power.digits != ""
}

// minus passes a sign, if there is one, and tells whether it is a minus.
func (c *cursor) minus() bool {
	if c.take("-") {
		return true
	}
	c.take("+")
	return false
}

func (c *cursor) digits(of string) string {
	from := c.at
	for c.take(of) {
	}
	return c.s[from:c.at]
}

// letters passes letters that must all follow.
func (c *cursor) letters(all string) bool {
	for i := range len(all) {
		if !c.take(all[i : i+1]) {
			return false
		}
	}
	return true
}

// take passes a byte, if it is one of these.
func (c *cursor) take(of string) bool {
	if c.at == len(c.s) || strings.IndexByte(of, c.s[c.at]) < 0 {
		return false
	}
	c.at++
	return true
}
