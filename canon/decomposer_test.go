package canon

import (
	"fmt"
	"math/rand"
	"slices"
	"testing"

	"postern/api"
)

// checkFed feeds a list in pieces, and holds what was told after each of them against what can't change any more, and all that was told against the normal form D.
func checkFed(t *testing.T, d *Decomposer, m model, pieces [][]rune) {
	t.Helper()
	var fed, told []rune
	for i, piece := range pieces {
		fed = append(fed, piece...)
		told = append(told, d.Feed(piece)...)
		if want := m.sure(fed); !slices.Equal(told, want) {
			t.Errorf("%v: %v told behind the piece %d, not %v", pieces, told, i, want)
		}
	}
	told = append(told, d.End()...)
	if want := m.decompose(fed); !slices.Equal(told, want) {
		t.Errorf("%v: %v told in all, not %v", pieces, told, want)
	}
}

// cuts calls with a list in every way of cutting it.
func cuts(l []rune, call func([][]rune)) {
	if len(l) == 0 {
		call(nil)
		return
	}
	for way := range 1 << (len(l) - 1) {
		var pieces [][]rune
		from := 0
		for i := 1; i < len(l); i++ {
			if way>>(i-1)&1 == 1 {
				pieces = append(pieces, l[from:i])
				from = i
			}
		}
		call(append(pieces, l[from:]))
	}
}

// Promises 12.3 and 12.5: every short list in every way of cutting it, by one Decomposer, which is as new behind each end.
func TestDecomposerHoweverCut(t *testing.T) {
	b := someBook()
	m, d := modelOf(b), NewDecomposer(compiled(t, b))
	for length := range 5 {
		lists(length, []rune{65, 768, 803, 194, 837, 302, 44033, -1}, func(l []rune) {
			cuts(l, func(pieces [][]rune) { checkFed(t, d, m, pieces) })
		})
	}
	for _, l := range [][]rune{
		{192, 803, 66}, {768, 803, 807, 769, 795, 776, 803, 768, 2364}, {65, 768, 803, 807, 769, 300, 837, 803, 66}, {201, 200, 202, 803, 302, 768, 302, 807, 303},
		{44033, 768, 803, 231, 807, 233, 4352, 4449, 803}, {-1, 768, 803, most, 807, least, 0x110000, 2364, 768}, {0xd800, 768, 65, 0xd801, 803, 0xdfff, 807, 768, 803},
	} {
		cuts(l, func(pieces [][]rune) { checkFed(t, d, m, pieces) })
	}
}

// Promise 12.3: empty pieces, nil or not, tell nothing and change nothing.
func TestDecomposerOfEmptyPieces(t *testing.T) {
	b := someBook()
	m, d := modelOf(b), NewDecomposer(compiled(t, b))
	empty := [][]rune{{}, nil}
	for _, l := range [][]rune{nil, {192, 803, 66}, {768, 803, 65}, {768, 803}, {65, 44033, 768, 803}} {
		cuts(l, func(pieces [][]rune) {
			between := slices.Clone(empty)
			for _, piece := range pieces {
				between = append(append(between, piece), empty...)
			}
			checkFed(t, d, m, between)
		})
	}
	d.Feed([]rune{192, 803})
	for _, piece := range empty {
		isList(t, "an empty piece", d.Feed(piece))
	}
	isList(t, "End behind empty pieces", d.End(), 65, 803, 768)
}

// Promise 12.3: marks alone are told at the end, or when something of class 0 comes.
func TestDecomposerOfMarksAlone(t *testing.T) {
	d := NewDecomposer(compiled(t, someBook()))
	for _, p := range []rune{768, 803, 837, 0xd800, 2364} {
		isList(t, fmt.Sprintf("Feed(%d)", p), d.Feed([]rune{p}))
	}
	isList(t, "End", d.End(), 2364, 803, 768, 776, 769, 0xd800)
	d.Feed([]rune{768, 803})
	isList(t, "Feed(65)", d.Feed([]rune{65}), 803, 768)
	isList(t, "Feed(807)", d.Feed([]rune{807}))
	isList(t, "End", d.End(), 65, 807)
	d.Feed([]rune{768})
	isList(t, "Feed of a mark ahead of a letter", d.Feed([]rune{803, 302, 769}), 803, 768, 768)
	isList(t, "End", d.End(), 65, 769)
}

// Promise 12.3: step by step, of what is told at which piece.
func TestDecomposerStepByStep(t *testing.T) {
	d := NewDecomposer(compiled(t, someBook()))
	for _, c := range []struct{ feed, want []rune }{
		{[]rune{65}, nil}, {[]rune{66}, []rune{65}}, {[]rune{768, 803}, nil}, {[]rune{807}, nil}, {[]rune{64, 768, 65, 769, 803}, []rune{66, 807, 803, 768, 64, 768}}, {nil, nil},
		// Of a syllable the last jamo is held, and of what is made of marks and letters what may still change.
		{[]rune{44033}, []rune{65, 803, 769, 4352, 4449}}, {[]rune{768}, nil}, {[]rune{302}, []rune{4520, 768, 768}}, {[]rune{220}, []rune{65, 65, 768}}, {[]rune{2364}, nil}, {[]rune{-1}, []rune{65, 2364, 807, 803, 768}}, {[]rune{most}, []rune{-1}},
	} {
		isList(t, fmt.Sprintf("Feed(%v)", c.feed), d.Feed(c.feed), c.want...)
	}
	isList(t, "End", d.End(), most)
}

// Promise 12.3: behind an end it is as new.
func TestDecomposerBehindItsEnd(t *testing.T) {
	d := NewDecomposer(compiled(t, someBook()))
	isList(t, "End of a new one", d.End())
	isList(t, "End again", d.End())
	for range 3 {
		isList(t, "Feed", d.Feed([]rune{65, 192, 803}), 65)
		isList(t, "End", d.End(), 65, 803, 768)
		isList(t, "End again", d.End())
		// What is fed now does not go behind the letter that was told at the end.
		isList(t, "Feed of marks", d.Feed([]rune{768, 807}))
		isList(t, "Feed of a letter", d.Feed([]rune{66}), 807, 768)
		isList(t, "End", d.End(), 66)
		isList(t, "Feed of marks", d.Feed([]rune{768, 803}))
		isList(t, "End of marks", d.End(), 803, 768)
	}
}

// Promises 12.3 and 12.5: lists of every kind by books of every kind, cut anyhow.
func TestDecomposerOfMany(t *testing.T) {
	r := rand.New(rand.NewSource(123))
	for range 200 {
		b, x := randomBook(t, r)
		m, d := modelOf(b), NewDecomposer(x)
		for range 20 {
			var pieces [][]rune
			for range r.Intn(7) {
				pieces = append(pieces, randomList(r, 4))
			}
			checkFed(t, d, m, pieces)
		}
	}
}

// Rule R5: two Decomposers in turns, of the same tables and of others, have nothing to do with each other.
func TestDecomposersAreApart(t *testing.T) {
	x := compiled(t, someBook())
	a, b, c := NewDecomposer(x), NewDecomposer(x), NewDecomposer(compiled(t, api.Book{Class: []api.Value{{From: 65, To: 65, N: 9}}}))
	isList(t, "a", a.Feed([]rune{192}))
	isList(t, "b", b.Feed([]rune{768}))
	isList(t, "c", c.Feed([]rune{192, 768}), 192)
	isList(t, "a", a.Feed([]rune{803}))
	isList(t, "b", b.Feed([]rune{66, 769}), 768)
	isList(t, "c", c.Feed([]rune{65}))
	isList(t, "a", a.Feed([]rune{64}), 65, 803, 768)
	isList(t, "b", b.Feed([]rune{807}))
	isList(t, "a at its end", a.End(), 64)
	isList(t, "c", c.Feed([]rune{66}), 768, 65)
	isList(t, "b", b.Feed([]rune{65}), 66, 807, 769)
	isList(t, "a behind its end", a.Feed([]rune{803}))
	isList(t, "b at its end", b.End(), 65)
	isList(t, "c at its end", c.End(), 66)
	isList(t, "a at its second end", a.End(), 803)
}

// Promise 12.3: on a nil Decomposer both nothing.
func TestNilDecomposer(t *testing.T) {
	var d *Decomposer
	for _, l := range [][]rune{nil, {}, {65}, {192, 803, 66}, {44033, 65}, {768}} {
		isList(t, "Feed", d.Feed(l))
		isList(t, "End", d.End())
	}
}

// Promise 12.4: a Decomposer of nil tables.
func TestDecomposerOfNilTables(t *testing.T) {
	m, d := modelOf(api.Book{}), NewDecomposer(nil)
	if d == nil {
		t.Fatal("no Decomposer")
	}
	isList(t, "Feed", d.Feed([]rune{192, 803, 768, 44033}), 192, 803, 768, 4352, 4449)
	isList(t, "Feed", d.Feed([]rune{768}), 4520)
	isList(t, "End", d.End(), 768)
	cuts([]rune{768, 803, 192, 44032, 837, -1, 768}, func(pieces [][]rune) { checkFed(t, d, m, pieces) })
}

// Rule R1: many marks in short pieces: it should take no longer for each piece the more of them came ahead.
func TestDecomposerOfManyMarks(t *testing.T) {
	const many = 1 << 18
	d := NewDecomposer(compiled(t, someBook()))
	d.Feed([]rune{65})
	for range many {
		if l := d.Feed([]rune{768}); len(l) != 0 {
			t.Fatalf("told: %v", l)
		}
		if l := d.Feed([]rune{803}); len(l) != 0 {
			t.Fatalf("told: %v", l)
		}
	}
	want := slices.Concat([]rune{65}, slices.Repeat([]rune{803}, many), slices.Repeat([]rune{768}, many))
	if l := d.Feed([]rune{66}); !slices.Equal(l, want) {
		t.Errorf("%d code points, not %d in order", len(l), len(want))
	}
	isList(t, "End", d.End(), 66)
}
