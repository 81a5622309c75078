package total

import (
	"math/big"
	"slices"
	"testing"

	"postern/api"
)

// sumCase is numbers, and what a call answers of them.
type sumCase struct {
	l    []float64
	want float64
}

// turned is the numbers with their signs turned.
func turned(l []float64) []float64 {
	t := slices.Clone(l)
	for i := range t {
		t[i] = -t[i]
	}
	return t
}

// Promise 5.3: Exact, at the edges.
func TestExact(t *testing.T) {
	for _, c := range []sumCase{
		{[]float64{5}, 5}, {[]float64{1, tiny, tiny}, 1 + lastBit}, {[]float64{1e300, 1, -1e300}, 1}, {[]float64{0.1, 0.2, -0.3}, 0x1p-55},
		{[]float64{0x1p1023, 0x1p1023, -0x1p1023}, 0x1p1023}, {[]float64{most, most, most, -most, -most}, most}, {[]float64{most, most, -most, -most, least}, least}, // past the greatest and back
		{[]float64{most, 0x1p970}, infinite}, {[]float64{most, 0x1p970, -least}, most}, {[]float64{most, 0x1p970, least}, infinite}, {[]float64{most, 0x1p969, 0x1p969}, infinite}, {[]float64{most, 0x1p969}, most}, {[]float64{0x1p1023, 0x1p1023, -0x1p970}, infinite}, {[]float64{0x1p1023, 0x1p1023, -0x1p970, -least}, most}, {[]float64{most, most}, infinite},
		{[]float64{1, tiny}, 1}, {[]float64{1, tiny, least}, 1 + lastBit}, {[]float64{1, tiny, -least}, 1}, {[]float64{1 + lastBit, tiny}, 1 + 2*lastBit}, {[]float64{1 + lastBit, tiny, -least}, 1 + lastBit}, {[]float64{1 + lastBit, tiny, least}, 1 + 2*lastBit}, {[]float64{1, -tiny / 2}, 1}, {[]float64{1, -tiny / 2, -least}, 1 - tiny}, {[]float64{1, -tiny / 2, least}, 1}, // halfway, and beside that
		{[]float64{0x1p53, 1}, 0x1p53}, {[]float64{0x1p53, 1, least}, 0x1p53 + 2}, {[]float64{0x1p53 + 2, 1}, 0x1p53 + 4}, {[]float64{0x1p53 + 2, 1, -least}, 0x1p53 + 2},
		{[]float64{least, least}, 2 * least}, {[]float64{0x1p-1022, -least}, 0x1p-1022 - least}, {[]float64{0x1p-1022 - least, least}, 0x1p-1022}, {[]float64{1, least, -1}, least}, {[]float64{0x1p-1021, -least}, 0x1p-1021 - least}, {[]float64{0x1p-1020, -least}, 0x1p-1020}, // subnormal sums
		{[]float64{infinite, 1}, infinite}, {[]float64{1, infinite, infinite, -most}, infinite}, {[]float64{most, most, infinite}, infinite}, {[]float64{-most, -most, infinite}, infinite},
	} {
		is(t, "Exact", c.l, good(t)(Exact(c.l...)), c.want)
		is(t, "Exact", turned(c.l), good(t)(Exact(turned(c.l)...)), -c.want)
	}
}

// Promise 5.3: Exact of noughts and of sums that are 0, and of what is none.
func TestExactNoughts(t *testing.T) {
	for _, c := range []sumCase{
		{nil, 0}, {[]float64{0}, 0}, {[]float64{below0}, below0}, {[]float64{below0, below0}, below0}, {[]float64{below0, 0}, 0}, {[]float64{0, below0}, 0}, {[]float64{below0, below0, 0, below0}, 0}, {[]float64{0, 0}, 0},
		{[]float64{1, -1}, 0}, {[]float64{-1, 1}, 0}, {[]float64{below0, 1, -1}, 0}, {[]float64{-1, below0, 1, below0}, 0}, {[]float64{-least, least}, 0}, {[]float64{most, -most}, 0}, {[]float64{below0, 5}, 5}, {[]float64{below0, -5, below0}, -5},
		{[]float64{infinite, -infinite}, none}, {[]float64{1, infinite, -infinite}, none}, {[]float64{-infinite, 1, infinite, 1}, none}, {[]float64{none}, none}, {[]float64{none, infinite}, none}, {[]float64{below0, none}, none}, {[]float64{infinite, below0}, infinite}, {[]float64{-infinite, below0}, -infinite},
	} {
		is(t, "Exact", c.l, good(t)(Exact(c.l...)), c.want)
	}
	for n := range 20 {
		l := slices.Repeat([]float64{1e300, -1}, 10)
		l[n] = none
		is(t, "Exact", l, good(t)(Exact(l...)), none)
	}
}

// Promise 5.3: Exact of lists of all manners, held against the sum as a real number.
func TestExactOfMany(t *testing.T) {
	for _, l := range lists() {
		is(t, "Exact", l, good(t)(Exact(l...)), wantExact(l))
	}
	s := source(7)
	for range 3000 {
		l := s.list(s.below(60))
		is(t, "Exact", l, good(t)(Exact(l...)), wantExact(l))
	}
}

// Promise 5.3: Exact right at what is halfway between two floats, and by the least one, or by a bit at any place, beside that.
func TestExactHalfway(t *testing.T) {
	s := source(8)
	for range 3000 {
		l := []float64{s.between(-1000, 1022)}
		next := big.NewFloat(0).SetPrec(room)
		next.Sub(number(nextUp(l[0])), number(l[0]))
		half := rounded(next.Quo(next, big.NewFloat(2)))
		l = append(l, half)
		is(t, "Exact", l, good(t)(Exact(l...)), wantExact(l))
		for _, beside := range []float64{least, -least, half * lastBit, -half * lastBit, s.between(-1074, -1010)} {
			l := append(l, beside)
			is(t, "Exact", l, good(t)(Exact(l...)), wantExact(l))
		}
	}
}

// nextUp is the next float farther from 0.
func nextUp(x float64) float64 {
	if x < 0 {
		return -nextUp(-x)
	}
	b := number(x)
	step := new(big.Float).SetMantExp(big.NewFloat(1), b.MantExp(nil)-53)
	return rounded(b.Add(b, step))
}

// Promise 5.3: as many of the greatest numbers as there may be, and the least one behind them.
func TestExactOfMaxSum(t *testing.T) {
	is(t, "Exact", "MaxSum", good(t)(Exact(many(0, most)...)), infinite)
	is(t, "Exact", "MaxSum", good(t)(Exact(many(0, -most)...)), -infinite)
	is(t, "Exact", "MaxSum", good(t)(Exact(many(0, 0.1)...)), 0.1*api.MaxSum)
	is(t, "Exact", "MaxSum", good(t)(Exact(many(0, below0)...)), below0)
	for _, sign := range []float64{1, -1} {
		l := append(slices.Repeat([]float64{sign * most}, api.MaxSum/2-1), slices.Repeat([]float64{-sign * most}, api.MaxSum/2-1)...)
		is(t, "Exact", "MaxSum", good(t)(Exact(append(slices.Clone(l), least, below0)...)), least)
		is(t, "Exact", "MaxSum", good(t)(Exact(append(slices.Clone(l), -1, -tiny)...)), -1)
		is(t, "Exact", "MaxSum", good(t)(Exact(append(slices.Clone(l), 0, below0)...)), 0)
		is(t, "ExactDot", "MaxSum", good(t)(ExactDot(append(slices.Clone(l), least, 0), many(-api.MaxSum+len(l)+2, most))), rounded(product(least, most)))
		is(t, "ExactDot", "MaxSum", good(t)(ExactDot(append(slices.Clone(l), tiny, 1), append(many(-api.MaxSum+len(l), most), 1, 1))), 1)
		is(t, "ExactDot", "MaxSum", good(t)(ExactDot(many(0, sign*most), many(0, most))), sign*infinite)
	}
	ones := many(0, 1)
	ones[0], ones[1] = 0x1p53, -api.MaxSum+3
	is(t, "Exact", "MaxSum", good(t)(Exact(ones...)), 0x1p53) // and 1 more, a tie
	ones[1]++
	is(t, "Exact", "MaxSum", good(t)(Exact(ones...)), 0x1p53+2)
}

// Promise 5.6, T8: Exact does not hang on the order of its numbers, nor on how many noughts are among them, but for the sign of a 0.
func TestExactInAnyOrder(t *testing.T) {
	s := source(9)
	for _, l := range lists() {
		want := good(t)(Exact(l...))
		other := slices.Clone(l)
		slices.Reverse(other)
		is(t, "Exact", other, good(t)(Exact(other...)), want)
		for i := range other {
			j := s.below(len(other))
			other[i], other[j] = other[j], other[i]
		}
		is(t, "Exact", other, good(t)(Exact(other...)), want)
		for range 3 {
			other = slices.Insert(other, s.below(len(other)+1), []float64{0, below0}[s.below(2)])
		}
		if x := good(t)(Exact(other...)); x != want && !alike(x, want) {
			t.Fatalf("Exact of %v: %v, not %v", other, x, want)
		}
	}
}

// Promise 5.6: of two numbers Exact is Sum, but of -0 twice; of a list and its negative it is 0.
func TestExactOfTwo(t *testing.T) {
	check := func(x, y float64) {
		want := good(t)(Sum(x, y))
		if alike(x, below0) && alike(y, below0) {
			want = below0
		}
		is(t, "Exact", []float64{x, y}, good(t)(Exact(x, y)), want)
	}
	for _, x := range edges() {
		for _, y := range edges() {
			check(x, y)
		}
	}
	s := source(10)
	for range 20000 {
		x := s.between(-1074, 1023)
		check(x, s.between(-1074, 1023))
		check(x, x*s.between(-56, 56))
	}
	for _, l := range lists() {
		if allFinite(l) && len(l) > 0 {
			both := append(slices.Clone(l), turned(l)...)
			is(t, "Exact", both, good(t)(Exact(both...)), 0)
		}
	}
}

// Promise 5.6: Exact is not farther from the true sum than any of the others.
func TestExactIsNearest(t *testing.T) {
	far := func(x float64, sum *big.Float) *big.Float {
		d := new(big.Float).SetPrec(room).Sub(number(x), sum)
		return d.Abs(d)
	}
	for _, l := range lists() {
		x := good(t)(Exact(l...))
		if !allFinite(l) || !isFinite(x) {
			continue
		}
		sum := trueSum(l)
		kept, _, _ := Kept(l)
		for _, y := range []float64{good(t)(Sum(l...)), good(t)(Halves(l)), good(t)(BySize(l)), kept} {
			if isFinite(y) && far(x, sum).Cmp(far(y, sum)) > 0 {
				t.Fatalf("Exact of %v: %v is farther than %v", l, x, y)
			}
		}
	}
}

// Promise 5.3: ExactDot, at the edges: products that are too great or too small for a float, halfway sums, noughts, infinite ones, none.
func TestExactDot(t *testing.T) {
	for _, c := range []struct {
		a, b []float64
		want float64
	}{
		{nil, nil, 0}, {[]float64{2, 3}, []float64{5, 7}, 31}, {[]float64{0x1p600, 0x1p600}, []float64{0x1p600, -0x1p600}, 0}, {[]float64{0x1p600, 0x1p600, 3}, []float64{0x1p600, -0x1p600, 5}, 15}, {[]float64{0x1p600}, []float64{0x1p600}, infinite}, {[]float64{0x1p600}, []float64{-0x1p600}, -infinite},
		{[]float64{0x1p-600}, []float64{0x1p-600}, 0}, {[]float64{0x1p-600}, []float64{-0x1p-600}, below0}, {[]float64{0x1p-600, 0x1p-600}, []float64{0x1p-600, -0x1p-600}, 0}, {[]float64{0x1p-600, 0x1p-601}, []float64{-0x1p-600, 0x1p-600}, below0}, {[]float64{least}, []float64{least}, 0}, {[]float64{least, least}, []float64{least, -least}, 0},
		{[]float64{0x1p-537}, []float64{0x1p-537}, least}, {[]float64{0x1p-537}, []float64{0x1p-538}, 0}, {[]float64{-0x1p-537}, []float64{0x1p-538}, below0}, {[]float64{0x1p-537, least}, []float64{0x1p-538, least}, least}, {[]float64{0x1p-537, least}, []float64{0x1p-538, -least}, 0}, {[]float64{0x3p-537}, []float64{0x1p-538}, 2 * least}, {[]float64{0x3p-537, least}, []float64{0x1p-538, -least}, least},
		{[]float64{1, 1, least}, []float64{1, tiny, least}, 1 + lastBit}, {[]float64{1, 1, least}, []float64{1, tiny, -least}, 1}, {[]float64{1, 1}, []float64{1, tiny}, 1}, {[]float64{1 + lastBit, 1}, []float64{1, tiny}, 1 + 2*lastBit}, {[]float64{1 + lastBit, 1, -least}, []float64{1, tiny, least}, 1 + lastBit},
		{[]float64{most, 0x1p900}, []float64{1, 0x1p70}, infinite}, {[]float64{most, 0x1p900, least}, []float64{1, 0x1p70, -least}, most}, {[]float64{most, 0x1p900}, []float64{1, 0x1p69}, most}, {[]float64{most, most}, []float64{most, -most}, 0}, {[]float64{most, most, least}, []float64{most, -most, 1}, least},
		{[]float64{-(1 + 0x1p-29), 1 + 0x1p-30}, []float64{1, 1 + 0x1p-30}, 0x1p-60},
		{[]float64{0}, []float64{1}, 0}, {[]float64{below0}, []float64{1}, below0}, {[]float64{0}, []float64{-1}, below0}, {[]float64{below0}, []float64{-1}, 0}, {[]float64{below0}, []float64{below0}, 0}, {[]float64{0}, []float64{below0}, below0}, {[]float64{below0, 5}, []float64{1, below0}, below0}, {[]float64{below0, 0}, []float64{1, 1}, 0}, {[]float64{0, below0}, []float64{1, 1}, 0}, {[]float64{below0, 1, 1}, []float64{1, 1, -1}, 0}, {[]float64{below0, -2}, []float64{1, 3}, -6},
		{[]float64{infinite}, []float64{0}, none}, {[]float64{below0}, []float64{infinite}, none}, {[]float64{1, 0}, []float64{1, -infinite}, none}, {[]float64{infinite}, []float64{2}, infinite}, {[]float64{infinite}, []float64{-2}, -infinite}, {[]float64{-least}, []float64{-infinite}, infinite}, {[]float64{infinite, -5}, []float64{infinite, -infinite}, infinite}, {[]float64{infinite, 5}, []float64{infinite, -infinite}, none}, {[]float64{infinite, infinite}, []float64{1, -1}, none}, {[]float64{infinite, most}, []float64{1, -most}, infinite},
		{[]float64{none}, []float64{1}, none}, {[]float64{1}, []float64{none}, none}, {[]float64{0, 1}, []float64{none, 1}, none}, {[]float64{1, none}, []float64{infinite, 0}, none}, {[]float64{below0, infinite}, []float64{1, -1}, -infinite},
	} {
		is(t, "ExactDot", [][]float64{c.a, c.b}, good(t)(ExactDot(c.a, c.b)), c.want)
		is(t, "ExactDot", [][]float64{c.b, c.a}, good(t)(ExactDot(c.b, c.a)), c.want)
	}
	for n := range 10 {
		for _, wrong := range []float64{none, infinite} {
			a, b := slices.Repeat([]float64{2}, 10), slices.Repeat([]float64{-3}, 10)
			a[n] = wrong
			if wrong == infinite {
				b[n] = 0
			}
			is(t, "ExactDot", a, good(t)(ExactDot(a, b)), none)
			is(t, "ExactDot", a, good(t)(ExactDot(b, a)), none)
		}
	}
}

// Promise 5.3: ExactDot of lists of all manners, held against the sum as a real number.
func TestExactDotOfMany(t *testing.T) {
	for _, p := range pairsOfLists() {
		is(t, "ExactDot", p, good(t)(ExactDot(p[0], p[1])), wantExactDot(p[0], p[1]))
	}
	for _, l := range lists() {
		// The same product with the other sign leaves what stands beside it.
		if !allFinite(l) {
			continue
		}
		a := append(append(slices.Clone(l), 0.1), turned(l)...)
		b := append(append(slices.Clone(l), 0.1), l...)
		is(t, "ExactDot", a, good(t)(ExactDot(a, b)), times(0.1, 0.1))
	}
}

// Promise 5.5: a Sums is Exact of all that was added so far.
func TestSums(t *testing.T) {
	for _, l := range lists() {
		s := NewSums()
		for i := range len(l) + 1 {
			want := good(t)(Exact(l[:i]...))
			is(t, "Total", l[:i], s.Total(), want)
			is(t, "Total again", l[:i], s.Total(), want)
			if s.Count() != i {
				t.Fatalf("Count: %d, not %d", s.Count(), i)
			}
			if i < len(l) {
				if e := s.Add(l[i]); e != api.OK {
					t.Fatalf("Add: %d", e)
				}
			}
		}
	}
}

// Promise 5.5: the last number that is taken, and the first that is not; nothing changes by that.
func TestSumsOfMaxSum(t *testing.T) {
	s := NewSums()
	for i := range api.MaxSum {
		x := most
		if i%2 == 1 {
			x = -most
		}
		if e := s.Add(x); e != api.OK {
			t.Fatalf("Add of %d: %d", i, e)
		}
	}
	for _, x := range []float64{1, none, infinite, 0} {
		if e := s.Add(x); e != api.ErrTerms {
			t.Errorf("Add of one more: %d", e)
		}
		if s.Count() != api.MaxSum || !alike(s.Total(), 0) {
			t.Errorf("%d, %v", s.Count(), s.Total())
		}
	}
}

// Promise 5.5: two Sums know nothing of one another; a nil one takes nothing.
func TestSumsApart(t *testing.T) {
	a, b := NewSums(), NewSums()
	for i, x := range []float64{1, none, below0} {
		a.Add(x)
		if b.Count() != i || !alike(b.Total(), []float64{0, below0, below0}[i]) {
			t.Errorf("%d, %v", b.Count(), b.Total())
		}
		b.Add(below0)
	}
	is(t, "Total", "a", a.Total(), none)
	is(t, "Total", "b", b.Total(), below0)
	var s *Sums
	if e := s.Add(1); e != api.ErrTerms {
		t.Error(e)
	}
	if !alike(s.Total(), 0) || s.Count() != 0 {
		t.Error(s.Total(), s.Count())
	}
}

// Promise 5.8: Compare.
func TestCompare(t *testing.T) {
	for _, c := range []struct {
		a, b []float64
		want int
		ok   bool
	}{
		{nil, nil, 0, true}, {[]float64{1, least}, []float64{1}, 1, true}, {[]float64{1, -least}, []float64{1}, -1, true}, {[]float64{0}, []float64{below0, below0}, 0, true}, {nil, []float64{below0}, 0, true}, {[]float64{1e300, 1, -1e300}, []float64{1}, 0, true}, {[]float64{most, most}, []float64{most, most, least}, -1, true}, {[]float64{-most, -most}, []float64{-most, -most, least}, -1, true}, {[]float64{most, most}, nil, 1, true}, {[]float64{0.1, 0.2}, []float64{0.3}, 1, true}, {[]float64{least}, nil, 1, true}, {nil, []float64{least}, -1, true}, {[]float64{1, 1}, []float64{2}, 0, true},
		{[]float64{infinite}, []float64{1}, 0, false}, {[]float64{1}, []float64{1, -infinite}, 0, false}, {[]float64{none}, nil, 0, false}, {nil, []float64{2, none}, 0, false}, {[]float64{infinite}, []float64{infinite}, 0, false}, {[]float64{infinite, -infinite}, nil, 0, false}, {[]float64{-infinite}, []float64{infinite}, 0, false}, {[]float64{5, none}, []float64{infinite}, 0, false},
		{many(0, most), many(0, -most), 1, true}, {many(0, -most), many(0, most), -1, true}, {many(0, most), many(0, most), 0, true}, {many(0, most), append(many(-1, most), most/2), 1, true},
	} {
		n, ok, e := Compare(c.a, c.b)
		if n != c.want || ok != c.ok || e != api.OK {
			t.Errorf("Compare of %d and %d numbers: %d, %v, %d, not %d, %v", len(c.a), len(c.b), n, ok, e, c.want, c.ok)
		}
	}
	for _, c := range [][2][]float64{{many(1, 1), nil}, {nil, many(1, 1)}, {many(1, none), many(1, 1)}, {many(0, 1), many(1, 1)}, {[]float64{none}, many(1, 1)}} {
		if n, ok, e := Compare(c[0], c[1]); n != 0 || ok || e != api.ErrTerms {
			t.Errorf("Compare of too many: %d, %v, %d", n, ok, e)
		}
	}
}

// Promises 5.8 and 5.10: Compare of lists of all manners, and turned about.
func TestCompareOfMany(t *testing.T) {
	all := lists()
	s := source(11)
	check := func(a, b []float64) {
		t.Helper()
		want, known := 0, allFinite(a) && allFinite(b)
		if known {
			want = trueSum(a).Cmp(trueSum(b))
		}
		if n, ok, e := Compare(a, b); n != want || ok != known || e != api.OK {
			t.Fatalf("Compare of %v and %v: %d, %v, %d, not %d, %v", a, b, n, ok, e, want, known)
		}
	}
	for _, a := range all {
		b := all[s.below(len(all))]
		again := slices.Clone(a)
		slices.Reverse(again)
		for _, other := range [][]float64{b, again, append(again, least), append(again, -least), {wantExact(a)}} {
			check(a, other)
			check(other, a)
		}
	}
}
