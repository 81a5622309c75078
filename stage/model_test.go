package stage

import (
	"math/rand"
	"slices"
	"strings"
	"testing"

	"postern/api"
)

// points is how many code points there are.
const points = 1114112

// world is a number for each code point, one by one.
type world [points]int

// worldOf is what rows say.
func worldOf(rows []api.Value) *world { return new(world).over(rows) }

// over is a world with rows laid over it.
func (w *world) over(rows []api.Value) *world {
	out := *w
	for _, r := range rows {
		for p := r.From; p <= r.To; p++ {
			out[p] = r.N
		}
	}
	return &out
}

// by is a world by a rule.
func by(rule func(p rune) int) *world {
	w := new(world)
	for p := range w {
		w[p] = rule(rune(p))
	}
	return w
}

// runs is the longest stretches of one number.
func (w *world) runs(from, to rune) []api.Value {
	var l []api.Value
	for p := from; p <= to; p++ {
		if p > from && w[p] == w[p-1] {
			l[len(l)-1].To = p
		} else {
			l = append(l, api.Value{From: p, To: p, N: w[p]})
		}
	}
	return l
}

// rows is these without noughts.
func (w *world) rows() []api.Value {
	return slices.DeleteFunc(w.runs(0, points-1), func(r api.Value) bool { return r.N == 0 })
}

// set is the code points of which a rule says yes.
func (w *world) set(rule func(p rune, n int) bool) []api.Span {
	var l []api.Span
	for p, n := range w {
		switch {
		case !rule(rune(p), n):
		case len(l) > 0 && l[len(l)-1].To == rune(p-1):
			l[len(l)-1].To = rune(p)
		default:
			l = append(l, api.Span{From: rune(p), To: rune(p)})
		}
	}
	return l
}

// counts is of how many code points each number is said.
func (w *world) counts() map[int]int {
	var all [65536]int
	for _, n := range w {
		all[n]++
	}
	m := make(map[int]int)
	for n, many := range all {
		if many > 0 {
			m[n] = many
		}
	}
	return m
}

// two is numbers as two bytes each.
func two(l ...int) string {
	s := make([]byte, 0, 2*len(l))
	for _, n := range l {
		s = append(s, byte(n/256), byte(n%256))
	}
	return string(s)
}

// text is the packed text, by its words.
func (w *world) text() (string, int) {
	number := make(map[string]int)
	var places, blocks strings.Builder
	for first := 0; first < points; first += 128 {
		b := two(w[first : first+128]...)
		if _, ok := number[b]; !ok {
			number[b] = len(number)
			blocks.WriteString(b)
		}
		places.WriteString(two(number[b]))
	}
	return two(len(number)) + places.String() + blocks.String(), len(number)
}

// row is a row.
func row(from, to rune, n int) api.Value { return api.Value{From: from, To: to, N: n} }

// rows is rows of triples of numbers.
func rows(triples ...int) []api.Value {
	var l []api.Value
	for i := 0; i < len(triples); i += 3 {
		l = append(l, row(rune(triples[i]), rune(triples[i+1]), triples[i+2]))
	}
	return l
}

// spans is spans of pairs of numbers.
func spans(pairs ...rune) []api.Span {
	var l []api.Span
	for i := 0; i < len(pairs); i += 2 {
		l = append(l, api.Span{From: pairs[i], To: pairs[i+1]})
	}
	return l
}

// ladder is so many rows of one code point each, step apart, whose numbers go round from 1 to most.
func ladder(many int, step rune, most int) []api.Value {
	l := make([]api.Value, many)
	for i := range l {
		l[i] = row(rune(i)*step, rune(i)*step, 1+i%most)
	}
	return l
}

// some is rows that may be, crowded at the ends and about the borders of blocks, with few numbers so that neighbours often have the same.
func some(r *rand.Rand, many int) []api.Value {
	var l []api.Value
	next := rune(0)
	for range many {
		switch r.Intn(5) {
		case 0:
			next += 128 - next%128
		case 1:
			next += 128*rune(r.Intn(900)) + rune(r.Intn(3))
		case 2:
			next += rune(r.Intn(4))
		}
		size := []rune{1, 2, rune(r.Intn(200)) + 1, 128, 128 - next%128, 129 - next%128, 256, 5000}[r.Intn(8)]
		if next+size > points {
			break
		}
		l = append(l, row(next, next+size-1, []int{0, 1, 1, 2, 256, 65535}[r.Intn(6)]))
		next += size
	}
	if r.Intn(3) == 0 && next < points {
		l = append(l, row(points-1-rune(r.Intn(int(min(points-next, 300)))), points-1, 1+r.Intn(2)))
	}
	return l
}

// built is a table of rows that may be.
func built(t *testing.T, l []api.Value) *Table {
	t.Helper()
	x, at, e := Build(l)
	if x == nil || at != 0 || e != api.OK {
		t.Fatalf("Build of %d rows: %v, %d, %d", len(l), x != nil, at, e)
	}
	return x
}

// agrees holds a table against a world: what it says of each code point, and the one text of that. So it is as though it had been built.
func agrees(t *testing.T, name string, x *Table, w *world) {
	t.Helper()
	for p, n := range w {
		if got := x.Look(rune(p)); got != n {
			t.Fatalf("%s: Look(%d): %d, not %d", name, p, got, n)
		}
	}
	for _, p := range []rune{-1, -128, -1 << 31, points, points + 127, 1<<31 - 1} {
		if got := x.Look(p); got != 0 {
			t.Errorf("%s: Look(%d): %d", name, p, got)
		}
	}
	text, blocks := w.text()
	if x.Blocks() != blocks {
		t.Errorf("%s: %d blocks, not %d", name, x.Blocks(), blocks)
	}
	if x.Pack() != text {
		t.Errorf("%s: another packed text", name)
	}
}

// follows holds all that is asked of one table against a world, and what follows of it.
func follows(t *testing.T, name string, x *Table, w *world) {
	t.Helper()
	agrees(t, name, x, w)
	if l := x.Rows(); !slices.Equal(l, w.rows()) {
		t.Errorf("%s: Rows: %d rows, not %d", name, len(l), len(w.rows()))
	}
	counts := w.counts()
	numbers, most := []int(nil), 0
	for n, many := range counts {
		numbers = append(numbers, n)
		if many > counts[most] || many == counts[most] && n < most {
			most = n
		}
	}
	slices.Sort(numbers)
	if l := Numbers(x); !slices.Equal(l, numbers) {
		t.Errorf("%s: Numbers: %v, not %v", name, l, numbers)
	}
	if n, many := Most(x); n != most || many != counts[most] {
		t.Errorf("%s: Most: %d, %d, not %d, %d", name, n, many, most, counts[most])
	}
	few := numbers[:min(len(numbers), 5)]
	for _, n := range append([]int{-1, 0, 1, 255, 256, 65535, 65536, 65537, -65535, 1 << 32, -1 << 63, 1<<63 - 1}, few...) {
		if many := x.Count(n); many != counts[n] {
			t.Errorf("%s: Count(%d): %d, not %d", name, n, many, counts[n])
		}
	}
	for _, n := range append([]int{-1, 65536}, few...) {
		if l, want := x.Set(n), w.set(func(_ rune, m int) bool { return m == n }); !slices.Equal(l, want) {
			t.Errorf("%s: Set(%d): %d spans, not %d", name, n, len(l), len(want))
		}
	}
	again, e := Unpack(x.Pack())
	if e != api.OK || !Same(again, x) || !Same(x, again) {
		t.Fatalf("%s: Unpack of Pack: %d", name, e)
	}
	if l := x.Rows(); len(l) <= api.MaxRows {
		if b := built(t, l); !Same(b, x) || b.Pack() != x.Pack() {
			t.Errorf("%s: Build of Rows is another table", name)
		}
	}
	if o, at, e := x.Over(nil); at != 0 || e != api.OK || !Same(o, x) || o.Pack() != x.Pack() {
		t.Errorf("%s: Over of no rows: %d, %d", name, at, e)
	}
}
