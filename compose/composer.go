package compose

import (
	"slices"

	"postern/book"
)

// Composer takes a name in pieces.
type Composer struct {
	// cutter is made once, so that a short piece does not cost a walk through the book.
	cutter cutter
	// held is the last piece by Parts, as it was fed.
	held []rune
}

// NewComposer is a Composer to which nothing was fed.
func NewComposer(t *book.Tables) *Composer { return &Composer{cutter: newCutter(t)} }

// Feed is the normal form C of what was not told yet, but the last piece by Parts, which is held.
func (c *Composer) Feed(r []rune) []rune {
	if c == nil {
		return nil
	}
	last := c.lastCut(r)
	if last < 0 {
		c.held = append(c.held, r...)
		return nil
	}
	sure := slices.Concat(c.held, r[:last])
	c.held = slices.Clone(r[last:])
	return Normal(c.cutter.tables, sure)
}

// End is the normal form C of what is held; the Composer is as new then.
func (c *Composer) End() []rune {
	if c == nil {
		return nil
	}
	left := c.held
	c.held = nil
	return Normal(c.cutter.tables, left)
}

// Held is how many code points are held.
func (c *Composer) Held() int {
	if c == nil {
		return 0
	}
	return len(c.held)
}

// lastCut is the last place ahead of which what was fed can be cut; -1: there is none. The beginning of all is left out, as nothing stands ahead of it.
func (c *Composer) lastCut(r []rune) int {
	last := len(r) - 1
	for last >= 0 && !c.cutter.opens(r[last]) {
		last--
	}
	return last
}
