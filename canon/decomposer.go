package canon

import (
	"slices"

	"postern/book"
)

// Decomposer takes a list in pieces.
type Decomposer struct {
	tables *book.Tables
	// held is what was not told yet: full decompositions, put in order only when they are told, so that many marks in short pieces are not sorted at each of them.
	held []rune
}

// NewDecomposer is a Decomposer to which nothing was fed.
func NewDecomposer(t *book.Tables) *Decomposer { return &Decomposer{tables: t} }

// Feed is what can't change any more of the normal form D of all that was fed so far, and was not told yet.
func (d *Decomposer) Feed(l []rune) []rune {
	if d == nil {
		return nil
	}
	more := allFull(d.tables, l)
	last := lastStarter(d.tables, more)
	if last < 0 {
		d.held = append(d.held, more...)
		return nil
	}
	d.held = append(d.held, more[:last]...)
	told := d.End()
	// A copy, so that a few code points do not hold on to all that was fed.
	d.held = slices.Clone(more[last:])
	return told
}

// End is what is left; the Decomposer is as new then.
func (d *Decomposer) End() []rune {
	if d == nil {
		return nil
	}
	left := d.held
	d.held = nil
	putInOrder(d.tables, left)
	return left
}

// lastStarter is the place of the last code point of class 0; -1: there is none.
func lastStarter(t *book.Tables, l []rune) int {
	last := len(l) - 1
	for last >= 0 && t.Class(l[last]) != 0 {
		last--
	}
	return last
}
