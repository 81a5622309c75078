package stage

import (
	"slices"
	"strings"
	"testing"

	"postern/api"
)

// Promise 8.5: a nil table, in each call and each place, is as one that says 0 of every code point. So is the zero one.
func TestNil(t *testing.T) {
	t.Parallel()
	l := rows(0, 5, 1, 100, 300, 2, last, last, 3)
	x, w, noughts := built(t, l), worldOf(l), new(world)
	for name, none := range map[string]*Table{"nil": nil, "zero": new(Table), "of no rows": built(t, nil)} {
		follows(t, name, none, noughts)
		together(t, name+" and nil", none, nil, noughts, noughts, spans(5, 9))
		together(t, "nil and "+name, nil, none, noughts, noughts, spans(5, 9))
		together(t, name+" first", none, x, noughts, w, spans(3, 200))
		together(t, name+" second", x, none, w, noughts, spans(3, 200))
		o, at, e := none.Over(l)
		if at != 0 || e != api.OK {
			t.Fatalf("%s: Over: %d, %d", name, at, e)
		}
		follows(t, name+", Over", o, w)
		if got := Runs(none, 5, 9); !slices.Equal(got, rows(5, 9, 0)) {
			t.Errorf("%s: Runs: %v", name, got)
		}
		for _, c := range [][2]int{{0, 7}, {0, 0}, {7, 0}, {7, 8}} {
			y, e := Swap(none, c[0], c[1])
			want := 0
			if c[0] == 0 {
				want = c[1]
			}
			if y == nil || e != api.OK {
				t.Fatalf("%s: Swap: %d", name, e)
			}
			follows(t, name+", Swap", y, by(func(rune) int { return want }))
		}
	}
}

// tablesOf is every way to a table.
func tablesOf(l []api.Value, x []api.Span, a, b *Table) []*Table {
	built, _, _ := Build(l)
	over, _, _ := a.Over(l)
	overNone, _, _ := a.Over(nil)
	unpacked, _ := Unpack(a.Pack())
	where, _ := Where(x, a, b)
	whereNone, _ := Where(nil, a, b)
	whereAll, _ := Where(spans(0, last), a, b)
	swapped, _ := Swap(a, 1, 9)
	alike, _ := Swap(a, 1, 1)
	return []*Table{built, over, overNone, unpacked, where, whereNone, whereAll, swapped, alike}
}

// spoil overwrites all that a table has.
func spoil(t *Table) {
	for i := range t.places[:cap(t.places)] {
		t.places[:cap(t.places)][i] = 0
	}
	for i := range t.unlike[:cap(t.unlike)] {
		t.unlike[:cap(t.unlike)][i] = block{7, 7, 7}
	}
	*t = Table{}
}

// Rule R4: what is handed in stays, with its spare room; tables that come out share nothing with it nor with each other.
func TestTablesAreOwn(t *testing.T) {
	roomRows := rows(65, 90, 1, 127, 300, 2, 5, 4, -1, 9, 9, 9)
	roomSpans := spans(0, 70, 128, 130, 5, 4, 9, 9)
	wasRows, wasSpans := slices.Clone(roomRows), slices.Clone(roomSpans)
	l, x := roomRows[:2], roomSpans[:2]
	a, b := built(t, rows(60, 80, 1, 1000, 2000, 3)), built(t, rows(70, 95, 4))
	textA, textB := a.Pack(), b.Pack()
	first, second := tablesOf(l, x, a, b), tablesOf(l, x, a, b)
	var texts []string
	for i, y := range first {
		if y == a || y == b || y == second[i] {
			t.Errorf("the table at %d is no new one", i)
		}
		texts = append(texts, y.Pack())
	}
	if !slices.Equal(roomRows, wasRows) || !slices.Equal(roomSpans, wasSpans) || a.Pack() != textA || b.Pack() != textB {
		t.Error("what was handed in is changed")
	}
	for i, y := range first {
		spoil(y)
		for j, z := range second {
			if z.Pack() != texts[j] {
				t.Errorf("the table at %d shares memory with the one at %d", j, i)
			}
		}
		if a.Pack() != textA || b.Pack() != textB {
			t.Errorf("the table at %d shares memory with what was handed in", i)
		}
	}
	for i := range roomRows {
		roomRows[i] = row(1, 2, 3)
	}
	for i := range roomSpans {
		roomSpans[i] = api.Span{From: 7, To: 7}
	}
	spoil(a)
	spoil(b)
	for j, z := range second {
		if z.Pack() != texts[j] {
			t.Errorf("the table at %d changes with what was handed in", j)
		}
	}
}

// owned asks twice for a list, spoils the first answer with its spare room, and holds the second against what the first was.
func owned[E comparable](t *testing.T, name string, wrong E, call func() []E) {
	t.Helper()
	first := call()
	want := slices.Clone(first)
	second := call()
	if len(first) == 0 {
		t.Fatalf("%s: nothing came out", name)
	}
	for i := range first[:cap(first)] {
		first[:cap(first)][i] = wrong
	}
	if !slices.Equal(second, want) || !slices.Equal(call(), want) {
		t.Errorf("%s: what came out is kept, or shared with another answer", name)
	}
}

// Rule R4: lists that come out are the caller's own, and the tables asked stay.
func TestListsAreOwn(t *testing.T) {
	a, b := built(t, rows(60, 80, 1, 1000, 2000, 3)), built(t, rows(70, 95, 4))
	textA, textB := a.Pack(), b.Pack()
	for _, c := range [][2]*Table{{a, b}, {a, nil}, {nil, a}} {
		owned(t, "Differ", api.Span{From: -7, To: -7}, func() []api.Span { return Differ(c[0], c[1]) })
		owned(t, "Pairs", [3]int{-7, -7, -7}, func() [][3]int { return Pairs(c[0], c[1]) })
		owned(t, "Numbers", -7, func() []int { return Numbers(c[0]) })
		owned(t, "Set", api.Span{From: -7, To: -7}, func() []api.Span { return c[0].Set(0) })
		owned(t, "Runs", row(-7, -7, -7), func() []api.Value { return Runs(c[0], 0, last) })
	}
	owned(t, "Rows", row(-7, -7, -7), a.Rows)
	if a.Pack() != textA || b.Pack() != textB {
		t.Error("the tables asked are changed")
	}
}

// Rules R4 and R5: a text that comes out stays.
func TestTextIsOwn(t *testing.T) {
	a := built(t, rows(60, 80, 1))
	s := a.Pack()
	was := strings.Clone(s)
	spoil(a)
	if s != was {
		t.Error("the text changes with the table")
	}
}
