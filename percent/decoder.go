package percent

import (
	"strings"

	"postern/octet"
)

// Decoder decodes a text in pieces.
type Decoder struct {
	held string // a percent sign, with one digit or none, that what comes next may make a coded byte
}

// NewDecoder is a decoder that holds nothing.
func NewDecoder() *Decoder { return &Decoder{} }

// Feed takes a piece: what comes out.
func (d *Decoder) Feed(piece string) string {
	if d == nil {
		return ""
	}
	text := d.held + piece
	sure := len(text) - unsure(text)
	// A copy, so that a few bytes do not hold on to all that was fed.
	d.held = strings.Clone(text[sure:])
	return Decode(text[:sure])
}

// End lets out what is held; the decoder is as new then.
func (d *Decoder) End() string {
	if d == nil {
		return ""
	}
	held := d.held
	d.held = ""
	return held
}

// Held is what is held.
func (d *Decoder) Held() string {
	if d == nil {
		return ""
	}
	return strings.Clone(d.held)
}

// unsure is how many bytes at the end of a text may become a coded byte by what comes behind them.
func unsure(s string) int {
	n := len(s)
	switch {
	case n >= 1 && s[n-1] == '%':
		return 1
	case n >= 2 && s[n-2] == '%' && octet.Digit(s[n-1], 16) >= 0:
		return 2
	}
	return 0
}
