package stage

import (
	"math/rand"
	"slices"
	"testing"

	"postern/api"
)

// pairsOf is Pairs by its words.
func pairsOf(a, b *world) [][3]int {
	many := make(map[[2]int]int)
	for p := range a {
		many[[2]int{a[p], b[p]}]++
	}
	var l [][3]int
	for k, n := range many {
		l = append(l, [3]int{k[0], k[1], n})
	}
	slices.SortFunc(l, func(x, y [3]int) int {
		if x[0] != y[0] {
			return x[0] - y[0]
		}
		return x[1] - y[1]
	})
	return l
}

// in tells whether a code point is in a list of spans.
func in(x []api.Span, p rune) bool {
	return slices.ContainsFunc(x, func(s api.Span) bool { return s.From <= p && p <= s.To })
}

// together holds all that is asked of two tables against their worlds, and what follows of it.
func together(t *testing.T, name string, a, b *Table, wa, wb *world, x []api.Span) {
	t.Helper()
	differ := Differ(a, b)
	if want := wa.set(func(p rune, n int) bool { return wb[p] != n }); !slices.Equal(differ, want) {
		t.Errorf("%s: Differ: %d spans, not %d", name, len(differ), len(want))
	}
	if Same(a, b) != (len(differ) == 0) || Same(b, a) != Same(a, b) {
		t.Errorf("%s: Same: %v of tables with %d spans unlike", name, Same(a, b), len(differ))
	}
	where, e := Where(x, a, b)
	if where == nil || e != api.OK {
		t.Fatalf("%s: Where: %d", name, e)
	}
	agrees(t, name+", Where", where, by(func(p rune) int {
		if in(x, p) {
			return wa[p]
		}
		return wb[p]
	}))
	for _, s := range Differ(where, a) {
		if in(x, s.From) || in(x, s.To) {
			t.Errorf("%s: Where and a differ within x, at %v", name, s)
		}
	}
	pairs := Pairs(a, b)
	if want := pairsOf(wa, wb); !slices.Equal(pairs, want) {
		t.Errorf("%s: %d pairs, not %d", name, len(pairs), len(want))
	}
	sum := 0
	for _, l := range pairs {
		sum += l[2]
	}
	if sum != points {
		t.Errorf("%s: the pairs sum to %d", name, sum)
	}
}

// Promises 8.7 to 8.9: two tables of many rows.
func TestTogetherOfMany(t *testing.T) {
	t.Parallel()
	r := rand.New(rand.NewSource(87))
	for i := range 25 {
		la, lb := some(r, 2*i), some(r, i)
		if i%6 == 0 {
			lb = la
		}
		var x []api.Span
		for _, v := range worldOf(some(r, i)).rows() {
			if len(x) == 0 || v.From > x[len(x)-1].To+1 {
				x = append(x, api.Span{From: v.From, To: v.To})
			}
		}
		a, b, wa, wb := built(t, la), built(t, lb), worldOf(la), worldOf(lb)
		together(t, "two of many", a, b, wa, wb, x)
		from := rune(r.Intn(points))
		to := from + rune(r.Intn(min(points-int(from), 9000)))
		if l := Runs(a, from, to); !slices.Equal(l, wa.runs(from, to)) {
			t.Errorf("Runs from %d to %d: %v", from, to, l)
		}
		agrees(t, "the first table", a, wa)
		agrees(t, "the second table", b, wb)
	}
}

// Promises 8.7 to 8.9: two tables of all shapes.
func TestTogetherOfShapes(t *testing.T) {
	t.Parallel()
	ground := rows(3, 8, 1, 100, 260, 3, 0xd000, 0xe000, 4, last, last, 5)
	b, wb := built(t, ground), worldOf(ground)
	for name, l := range shapes() {
		together(t, name, built(t, l), b, worldOf(l), wb, spans(0, 5, 127, 128, 200, 0xd900, last, last))
	}
}

// Promise 8.7: Where by nothing, by all, by borders, and by as many spans as there may be.
func TestWhere(t *testing.T) {
	t.Parallel()
	la, lb := rows(65, 90, 1, 127, 300, 2, last-5, last, 7), rows(70, 95, 1, 200, 260, 0, 261, 400, 9, last-9, last-2, 8)
	a, b, wa, wb := built(t, la), built(t, lb), worldOf(la), worldOf(lb)
	for name, x := range map[string][]api.Span{
		"nothing": nil, "nothing, not nil": {}, "all": spans(0, last), "the first": spans(0, 0), "the last": spans(last, last), "all but the ends": spans(1, last-1),
		"a block": spans(128, 255), "over a border": spans(127, 128), "a block and more": spans(127, 256), "within": spans(66, 68, 70, 70, 90, 91), "two in a block": spans(200, 201, 203, 204, 254, 257), "where neither says": spans(5000, 6000),
	} {
		together(t, name, a, b, wa, wb, x)
		together(t, name+", of one", a, a, wa, wa, x)
	}
	if w, _ := Where(nil, a, b); !Same(w, b) {
		t.Error("Where by nothing is not b")
	}
	if w, _ := Where(spans(0, last), a, b); !Same(w, a) {
		t.Error("Where by all is not a")
	}
	most := make([]api.Span, api.MaxSpans)
	for i := range most {
		most[i] = api.Span{From: rune(17 * i), To: rune(17*i + 7)}
	}
	w, e := Where(most, built(t, rows(0, last, 3)), nil)
	if e != api.OK || w.Count(3) != 8*api.MaxSpans || len(w.Rows()) != api.MaxSpans {
		t.Error("Where by MaxSpans spans:", e, w.Count(3))
	}
	big := built(t, ladder(api.MaxRows, 2, 5))
	for range 3 {
		// More stretches than MaxRows are taken over.
		big, _, _ = big.Over(ladder(api.MaxRows, 17, 65535))
	}
	if w, e := Where(spans(0, last), big, a); e != api.OK || len(big.Rows()) <= api.MaxRows || !Same(w, big) {
		t.Error("Where of many stretches:", e, len(big.Rows()))
	}
}

// Promise 8.7: x that is no set.
func TestWhereOfNoSet(t *testing.T) {
	a := built(t, rows(65, 90, 1))
	tooMany := make([]api.Span, api.MaxSpans+1)
	for i := range tooMany {
		tooMany[i] = api.Span{From: rune(2 * i), To: rune(2 * i)}
	}
	for name, x := range map[string][]api.Span{
		"from above to": spans(5, 4), "below 0": spans(-1, 4), "beyond": spans(5, last+1), "all runes": spans(-1<<31, 1<<31-1), "overlapping": spans(1, 5, 5, 9), "touching": spans(1, 5, 6, 9), "falling": spans(8, 9, 1, 2), "wrong behind": spans(1, 2, 5, 4), "too many": tooMany,
	} {
		for _, c := range [][2]*Table{{a, a}, {a, nil}, {nil, a}, {nil, nil}} {
			if w, e := Where(x, c[0], c[1]); w != nil || e != api.ErrSpan {
				t.Errorf("%s: %v, %d", name, w != nil, e)
			}
		}
	}
}

// Promises 8.7, 8.9: one number in the place of another.
func TestSwap(t *testing.T) {
	t.Parallel()
	l := rows(0, 5, 1, 6, 9, 2, 128, 133, 3, 134, 137, 2, 300, 300, api.MaxValue, 500, 999, 1, last, last, 2)
	x, w := built(t, l), worldOf(l)
	for _, c := range [][2]int{{1, 7}, {1, 2}, {2, 1}, {1, 3}, {3, 1}, {1, 1}, {0, 0}, {0, 1}, {1, 0}, {0, 9}, {2, 0}, {9, 1}, {9, 0}, {9, 9}, {api.MaxValue, 0}, {0, api.MaxValue}, {api.MaxValue, api.MaxValue}, {1, api.MaxValue}, {api.MaxValue, 1}} {
		y, e := Swap(x, c[0], c[1])
		if e != api.OK {
			t.Fatal(c, e)
		}
		follows(t, "Swap", y, by(func(p rune) int {
			if w[p] == c[0] {
				return c[1]
			}
			return w[p]
		}))
		agrees(t, "what was swapped", x, w)
	}
	if y, _ := Swap(x, 1, 3); y.Blocks() >= x.Blocks() {
		t.Errorf("blocks that are alike now: %d, of %d", y.Blocks(), x.Blocks())
	}
	for _, c := range [][2]int{{-1, 1}, {1, -1}, {65536, 1}, {1, 65536}, {65536, 65536}, {-1, -1}, {0, 65536}, {65536, 0}, {1 << 32, 1}, {1, 1 << 32}, {-1 << 63, 1}, {1, 1<<63 - 1}} {
		for _, table := range []*Table{x, nil} {
			if y, e := Swap(table, c[0], c[1]); y != nil || e != api.ErrValue {
				t.Errorf("Swap of %d to %d: %v, %d", c[0], c[1], y != nil, e)
			}
		}
	}
}

// Promise 8.8: the number that is said most, and of several the least.
func TestMost(t *testing.T) {
	half := points / 2
	third := points / 3
	for name, c := range map[string]struct {
		rows    []api.Value
		n, many int
	}{
		"nothing":                  {nil, 0, points},
		"all of one":               {rows(0, last, 65535), 65535, points},
		"two halves":               {rows(0, half-1, 9, half, last, 4), 4, half},
		"two halves, in turn":      {rows(0, half-1, 4, half, last, 9), 4, half},
		"half, and noughts":        {rows(half, last, 3), 0, half},
		"one more than noughts":    {rows(half-1, last, 3), 3, half + 1},
		"one less than noughts":    {rows(half+1, last, 3), 0, half + 1},
		"two thirds, less noughts": {rows(0, third-1, 8, third, 2*third-1, 7, 2*third, 2*third+9, 6), 7, third},
		"in pieces":                {rows(0, 0x3ffff, 1, 0x40000, 0x7ffff, 2, 0x80000, 0xbffff, 1, 0xc0000, 0xfffff, 2), 1, 0x80000},
	} {
		if n, many := Most(built(t, c.rows)); n != c.n || many != c.many {
			t.Errorf("%s: %d, %d", name, n, many)
		}
	}
}

// Promise 8.8: all numbers, at either end.
func TestNumbers(t *testing.T) {
	for _, c := range []struct {
		rows []api.Value
		want []int
	}{
		{nil, []int{0}}, {rows(5, 9, 0), []int{0}}, {rows(0, last, 5), []int{5}}, {rows(0, last-1, 65535), []int{0, 65535}}, {rows(3, 3, 65535, 4, 4, 1, 900, 900, 65534, 2000, 2000, 1), []int{0, 1, 65534, 65535}},
	} {
		if l := Numbers(built(t, c.rows)); !slices.Equal(l, c.want) {
			t.Errorf("%v: %v", c.rows, l)
		}
	}
	x, _, _ := built(t, ladder(api.MaxRows, 17, api.MaxValue)).Over(nil)
	if l := Numbers(x); len(l) != api.MaxValue+1 || l[0] != 0 || l[api.MaxValue] != api.MaxValue || !slices.IsSorted(l) {
		t.Errorf("every number: %d", len(l))
	}
}

// Promise 8.8: stretches, cut at both ends.
func TestRuns(t *testing.T) {
	l := rows(65, 90, 1, 91, 95, 2, 127, 300, 3, last-5, last, 7)
	x, w := built(t, l), worldOf(l)
	for _, c := range [][2]rune{{60, 70}, {0, 0}, {65, 65}, {64, 65}, {90, 91}, {65, 90}, {64, 91}, {66, 67}, {127, 128}, {128, 255}, {0, 127}, {0, last}, {last, last}, {last - 6, last}, {last - 6, last - 5}, {0, last - 1}, {1000, 5000}} {
		if got := Runs(x, c[0], c[1]); !slices.Equal(got, w.runs(c[0], c[1])) {
			t.Errorf("from %d to %d: %v", c[0], c[1], got)
		}
	}
	for _, c := range [][2]rune{{5, 4}, {last, 0}, {-1, 5}, {-1, -1}, {-5, -1}, {0, -1}, {0, last + 1}, {last, last + 1}, {last + 1, last + 1}, {last + 1, last}, {-1, last + 1}, {-1 << 31, 1<<31 - 1}, {1<<31 - 1, -1 << 31}, {1<<31 - 1, 1<<31 - 1}, {70, 1<<31 - 1}, {-1 << 31, 70}} {
		for _, table := range []*Table{x, nil} {
			if got := Runs(table, c[0], c[1]); len(got) != 0 {
				t.Errorf("from %d to %d: %v", c[0], c[1], got)
			}
		}
	}
}

// The chapter's example 4.
func TestMoreExamples(t *testing.T) {
	a, b := built(t, rows(65, 90, 1)), built(t, rows(70, 95, 1))
	if l := Differ(a, b); !slices.Equal(l, spans(65, 69, 91, 95)) {
		t.Error("Differ:", l)
	}
	if l := Numbers(a); !slices.Equal(l, []int{0, 1}) {
		t.Error("Numbers:", l)
	}
	if n, many := Most(a); n != 0 || many != 1114086 {
		t.Error("Most:", n, many)
	}
	if l := Pairs(a, b); !slices.Equal(l, [][3]int{{0, 0, 1114081}, {0, 1, 5}, {1, 0, 5}, {1, 1, 21}}) {
		t.Error("Pairs:", l)
	}
	if l := Runs(a, 60, 70); !slices.Equal(l, rows(60, 64, 0, 65, 70, 1)) {
		t.Error("Runs:", l)
	}
}
