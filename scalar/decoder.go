package scalar

import "strings"

// Decoder reads a text in pieces.
type Decoder struct {
	held string // the beginning of a sequence that what comes next may go on with
}

// NewDecoder is a Decoder to which nothing was fed.
func NewDecoder() *Decoder { return &Decoder{} }

// Feed is what is sure to stay of what was fed so far, and was not told yet.
func (d *Decoder) Feed(piece string) []rune {
	if d == nil {
		return nil
	}
	text := d.held + piece
	d.held = ""
	var told []rune
	for p := range each(text) {
		if rest := text[p.At:]; unfinished(rest) {
			// A copy, so that a few bytes do not hold on to all that was fed.
			d.held = strings.Clone(rest)
			break
		}
		told = append(told, p.Rune)
	}
	return told
}

// End is what the bytes that are held back say; the Decoder is as new then.
func (d *Decoder) End() []rune {
	if d == nil || d.held == "" {
		return nil
	}
	d.held = ""
	return []rune{replacement}
}

// Held is the bytes that are held back.
func (d *Decoder) Held() string {
	if d == nil {
		return ""
	}
	return d.held
}
