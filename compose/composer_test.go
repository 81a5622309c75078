package compose

import (
	"fmt"
	"math/rand"
	"slices"
	"testing"

	"postern/api"
)

// checkFed feeds a name in pieces, and holds what each of them told, and what is held, against all pieces by Parts of what was fed; and all that was told against the normal form C.
func checkFed(t *testing.T, c *Composer, m model, pieces [][]rune) {
	t.Helper()
	var fed, told []rune
	for i, piece := range pieces {
		fed = append(fed, piece...)
		told = append(told, c.Feed(piece)...)
		var want []rune
		held, parts := 0, m.pieces(fed)
		for k, part := range parts {
			if k == len(parts)-1 {
				held = len(part)
			} else {
				want = append(want, m.normal(part)...)
			}
		}
		if !slices.Equal(told, want) || c.Held() != held {
			t.Errorf("%v: %v told behind the piece %d and %d held, not %v and %d", pieces, told, i, c.Held(), want, held)
		}
	}
	told = append(told, c.End()...)
	if want := m.normal(fed); !slices.Equal(told, want) || c.Held() != 0 {
		t.Errorf("%v: %v told in all and %d held, not %v", pieces, told, c.Held(), want)
	}
}

// Promises 13.5 and 13.7: every short name in every way of cutting it, by one Composer, which is as new behind each end.
func TestComposerHoweverCut(t *testing.T) {
	b := someBook()
	m, c := modelOf(b), NewComposer(compiled(t, b))
	for length := range 5 {
		lists(length, []rune{65, 768, 803, 71, 222, 214, 4449, -1}, func(r []rune) {
			cuts(r, func(pieces [][]rune) { checkFed(t, c, m, pieces) })
		})
	}
	for _, r := range [][]rune{
		{65, 768, 803, 769, 66, 71, 70, 71, 768}, {768, 803, 807, 769, 795, 776, 803, 768, 2364}, {210, 803, 211, 212, 213, 214, 66, 221, 768},
		{4352, 4449, 4520, 768, 4352, 4449, 4520, 4520, 803}, {44032, 4520, 44032, 4519, 231, 803, 4352, 4470, 4449}, {-1, 768, 803, most, 807, least, 0x110000, 2364, 768}, {0xd800, 768, 65, 0xd801, 803, 0xdfff, 807, 768, 803},
	} {
		cuts(r, func(pieces [][]rune) { checkFed(t, c, m, pieces) })
	}
}

// Promise 13.5: empty pieces, nil or not, tell nothing and change nothing.
func TestComposerOfEmptyPieces(t *testing.T) {
	b := someBook()
	m, c := modelOf(b), NewComposer(compiled(t, b))
	empty := [][]rune{{}, nil}
	for _, r := range [][]rune{nil, {65, 768, 803, 66}, {768, 803, 65}, {768, 803}, {66, 4352, 4449, 4520}} {
		cuts(r, func(pieces [][]rune) {
			between := slices.Clone(empty)
			for _, piece := range pieces {
				between = append(append(between, piece), empty...)
			}
			checkFed(t, c, m, between)
		})
	}
	c.Feed([]rune{65, 768})
	for _, piece := range empty {
		isName(t, "an empty piece", c.Feed(piece))
		if c.Held() != 2 {
			t.Errorf("held behind an empty piece: %d", c.Held())
		}
	}
	isName(t, "End behind empty pieces", c.End(), 192)
}

// Promise 13.5: step by step, of what is told at which piece, and how much is held, as it was fed.
func TestComposerStepByStep(t *testing.T) {
	c := NewComposer(compiled(t, someBook()))
	for _, s := range []struct {
		feed, want []rune
		held       int
	}{
		{nil, nil, 0}, {[]rune{768}, nil, 1}, {[]rune{803}, nil, 2}, {[]rune{65}, []rune{803, 768}, 1}, {[]rune{768, 803}, nil, 3}, {[]rune{66}, []rune{197}, 1}, {nil, nil, 1},
		{[]rune{64, 65, 768, 70}, []rune{66, 64, 192}, 1}, {[]rune{71}, nil, 2}, {[]rune{222}, nil, 3}, {[]rune{210, 803}, []rune{220, 222}, 2}, {[]rune{44032}, []rune{197}, 1}, {[]rune{4520, 768}, nil, 3}, {[]rune{-1}, []rune{231}, 1}, {[]rune{211, 213}, nil, 3}, {[]rune{most, most}, []rune{-1, 795, 768, 776, most}, 1},
	} {
		isName(t, fmt.Sprintf("Feed(%v)", s.feed), c.Feed(s.feed), s.want...)
		if c.Held() != s.held {
			t.Errorf("held behind %v: %d, not %d", s.feed, c.Held(), s.held)
		}
	}
	isName(t, "End", c.End(), most)
}

// Promise 13.5: behind an end it is as new: what comes then goes into nothing that was told.
func TestComposerBehindItsEnd(t *testing.T) {
	c := NewComposer(compiled(t, someBook()))
	isName(t, "End of a new one", c.End())
	isName(t, "End again", c.End())
	for range 3 {
		isName(t, "Feed", c.Feed([]rune{66, 65, 803}), 66)
		isName(t, "End", c.End(), 196)
		if c.Held() != 0 {
			t.Errorf("held behind the end: %d", c.Held())
		}
		isName(t, "End again", c.End())
		isName(t, "Feed of marks", c.Feed([]rune{768}))
		if c.Held() != 1 {
			t.Errorf("held: %d", c.Held())
		}
		isName(t, "Feed of a letter", c.Feed([]rune{66}), 768)
		isName(t, "End", c.End(), 66)
		isName(t, "Feed of a jamo", c.Feed([]rune{4352}))
		isName(t, "End", c.End(), 4352)
		isName(t, "Feed of a second jamo", c.Feed([]rune{4449}))
		isName(t, "End", c.End(), 4449)
	}
}

// Promises 13.5 and 13.7: names of every kind by books of every kind, cut anyhow.
func TestComposerOfMany(t *testing.T) {
	r := rand.New(rand.NewSource(136))
	for range 200 {
		b, x := randomBook(t, r)
		m, c := modelOf(b), NewComposer(x)
		for range 20 {
			var pieces [][]rune
			for range r.Intn(7) {
				pieces = append(pieces, randomName(r, 4))
			}
			checkFed(t, c, m, pieces)
		}
	}
}

// Rule R5: Composers in turns, of the same tables and of others, have nothing to do with each other.
func TestComposersAreApart(t *testing.T) {
	x := compiled(t, someBook())
	a, b, c := NewComposer(x), NewComposer(x), NewComposer(compiled(t, api.Book{Decomp: []api.Chars{row(200, 65, 66)}}))
	isName(t, "a", a.Feed([]rune{65}))
	isName(t, "b", b.Feed([]rune{768}))
	isName(t, "c", c.Feed([]rune{65}))
	isName(t, "a", a.Feed([]rune{768}))
	isName(t, "c", c.Feed([]rune{66}))
	isName(t, "b", b.Feed([]rune{70}), 768)
	if a.Held() != 2 || b.Held() != 1 || c.Held() != 2 {
		t.Errorf("held: %d, %d, %d", a.Held(), b.Held(), c.Held())
	}
	isName(t, "a", a.Feed([]rune{66}), 192)
	isName(t, "b", b.Feed([]rune{71}))
	isName(t, "c", c.Feed([]rune{768}), 200)
	isName(t, "a at its end", a.End(), 66)
	isName(t, "b", b.Feed([]rune{65, 803}), 220)
	isName(t, "a behind its end", a.Feed([]rune{803}))
	isName(t, "c at its end", c.End(), 768)
	isName(t, "b at its end", b.End(), 196)
	isName(t, "a at its second end", a.End(), 803)
}

// Promise 13.5: on a nil Composer Feed and End nothing, Held 0.
func TestNilComposer(t *testing.T) {
	var c *Composer
	for _, r := range [][]rune{nil, {}, {65}, {65, 768, 66}, {44032, 65}, {768}} {
		isName(t, "Feed", c.Feed(r))
		if c.Held() != 0 {
			t.Errorf("held: %d", c.Held())
		}
		isName(t, "End", c.End())
	}
}

// Promise 13.5: a Composer of nil tables.
func TestComposerOfNilTables(t *testing.T) {
	m, c := modelOf(api.Book{}), NewComposer(nil)
	if c == nil {
		t.Fatal("no Composer")
	}
	isName(t, "Feed", c.Feed([]rune{65, 768, 4352}), 65, 768)
	isName(t, "Feed", c.Feed([]rune{4449, 4520}))
	if c.Held() != 3 {
		t.Errorf("held: %d", c.Held())
	}
	isName(t, "End", c.End(), 44033)
	for _, r := range [][]rune{{768, 803, 192, 44032, 4520, -1, 4449}, {4352, 4449, 65, 4520}} {
		cuts(r, func(pieces [][]rune) { checkFed(t, c, m, pieces) })
	}
}

// Rule R1: many marks in short pieces: it should take no longer for each piece the more of them came ahead, nor the more rows the book has.
func TestComposerOfManyMarks(t *testing.T) {
	const many = 1 << 17
	b := someBook()
	b.Like = nil
	for p := rune(1000); p < 60000; p++ {
		b.Like = append(b.Like, row(p, 97))
	}
	c := NewComposer(compiled(t, b))
	c.Feed([]rune{65})
	for i := range many {
		told := append(c.Feed([]rune{776}), c.Feed([]rune{803})...)
		if len(told) != 0 || c.Held() != 2*i+3 {
			t.Fatalf("told: %v, held: %d", told, c.Held())
		}
	}
	want := slices.Concat([]rune{196}, slices.Repeat([]rune{803}, many-1), slices.Repeat([]rune{776}, many))
	if l := c.Feed([]rune{66}); !slices.Equal(l, want) {
		t.Errorf("%d code points, not %d in order", len(l), len(want))
	}
	isName(t, "End", c.End(), 66)
}
