package compose

import (
	"postern/api"
	"postern/book"
	"postern/canon"
)

// cutter tells of a code point whether it may go into what stands ahead of it, or opens a piece.
type cutter struct {
	tables *book.Tables
	// seconds has the second ones of the pairs that compose, for which tables can't be asked.
	seconds map[rune]struct{}
}

func newCutter(t *book.Tables) cutter {
	seconds := make(map[rune]struct{})
	for _, row := range t.Book().Decomp {
		if len(row.Is) != 2 {
			continue
		}
		if _, ok := t.Pair(row.Is[0], row.Is[1]); ok {
			seconds[row.Is[1]] = struct{}{}
		}
	}
	return cutter{t, seconds}
}

// first is the first code point of the decomposition of one, in canonical order.
func (c cutter) first(p rune) rune { return canon.Decompose(c.tables, []rune{p})[0] }

// joins tells whether something composes with a code point behind it.
func (c cutter) joins(p rune) bool {
	_, ok := c.seconds[p]
	return ok || isLaterJamo(p)
}

// opens tells whether a name can be cut ahead of a code point.
func (c cutter) opens(p rune) bool {
	first := c.first(p)
	return c.tables.Class(first) == 0 && !c.joins(first)
}

// Quick is the quick check.
func Quick(t *book.Tables, r []rune) int {
	if canon.Ordered(t, r) >= 0 {
		return api.QuickNo
	}
	for _, p := range r {
		if !Is(t, []rune{p}) {
			return api.QuickNo
		}
	}
	c := newCutter(t)
	for _, p := range r {
		if c.joins(c.first(p)) {
			return api.QuickMaybe
		}
	}
	return api.QuickYes
}

// Parts is the places at which a name can be cut.
func Parts(t *book.Tables, r []rune) []int {
	var at []int
	c := newCutter(t)
	for i, p := range r {
		if i == 0 || c.opens(p) {
			at = append(at, i)
		}
	}
	return at
}

// Longest is the place and the length of the longest piece, the first of several.
func Longest(t *book.Tables, l []rune) (int, int) {
	place, length := 0, 0
	cuts := Parts(t, l)
	for i, from := range cuts {
		to := len(l)
		if i+1 < len(cuts) {
			to = cuts[i+1]
		}
		if to-from > length {
			place, length = from, to-from
		}
	}
	return place, length
}
