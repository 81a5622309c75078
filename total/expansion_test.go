package total

import (
	"math/big"
	"slices"
	"testing"

	"postern/api"
)

// wantTwo takes each operation by itself.
func wantTwo(a, b float64) (float64, float64) {
	s := plus(a, b)
	u := less(s, a)
	return s, plus(less(a, less(s, u)), less(b, u))
}

// Promise 5.2: Two; and 5.6: both sum exactly to a and b, if no operation is infinite.
func TestTwo(t *testing.T) {
	check := func(a, b float64) {
		t.Helper()
		s, e := Two(a, b)
		wantS, wantE := wantTwo(a, b)
		if !alike(s, wantS) || !alike(e, wantE) {
			t.Fatalf("Two(%v, %v): %v, %v, not %v, %v", a, b, s, e, wantS, wantE)
		}
		if allFinite([]float64{a, b, s, e}) && trueSum([]float64{a, b, -s, -e}).Sign() != 0 {
			t.Fatalf("Two(%v, %v): %v, %v", a, b, s, e)
		}
	}
	for _, a := range edges() {
		for _, b := range edges() {
			check(a, b)
		}
	}
	s := source(12)
	for range 20000 {
		a := s.between(-1074, 1023)
		check(a, s.between(-1074, 1023))
		check(a, a*s.between(-60, 60))
		check(s.between(-60, 0), s.between(-3, 60))
	}
	for _, c := range []struct{ a, b, s, e float64 }{
		{1, 0x1p-60, 1, 0x1p-60}, {0x1p-60, 1, 1, 0x1p-60}, {1, tiny, 1, tiny}, {1 + lastBit, tiny, 1 + 2*lastBit, -tiny}, {1, -1, 0, 0}, {0, 0, 0, 0}, {below0, below0, below0, 0}, {most, most, infinite, none}, {infinite, 1, infinite, none}, {1, infinite, infinite, none}, {infinite, -infinite, none, none}, {none, 1, none, none}, {1, none, none, none}, {most, 0x1p969, most, 0x1p969},
		// The step back to b passes the greatest number, though the sum does not.
		{-0x3p970, most, most - 0x1p971, none},
	} {
		if s, e := Two(c.a, c.b); !alike(s, c.s) || !alike(e, c.e) {
			t.Errorf("Two(%v, %v): %v, %v, not %v, %v", c.a, c.b, s, e, c.s, c.e)
		}
	}
}

// Promise 5.4: Split, each operation rounded by itself (R7).
func TestSplit(t *testing.T) {
	check := func(a float64) {
		t.Helper()
		g := times(134217729, a)
		wantUpper := less(g, less(g, a))
		upper, lower := Split(a)
		if !alike(upper, wantUpper) || !alike(lower, less(a, wantUpper)) {
			t.Fatalf("Split(%v): %v, %v, not %v, %v", a, upper, lower, wantUpper, less(a, wantUpper))
		}
	}
	for _, a := range edges() {
		check(a)
	}
	s := source(13)
	for range 30000 {
		check(s.between(-1074, 1023))
		check(s.between(0, 0))
		// Just below a power of two the product has passed one, and what was lost with its last bit tips the difference.
		check(2 - lastBit*float64(s.below(1<<27)))
	}
	for _, c := range []struct{ a, upper, lower float64 }{
		{134217729, 134217728, 1}, {-134217729, -134217728, -1}, {1, 1, 0}, {0, 0, 0}, {below0, below0, 0}, {1 + lastBit, 1, lastBit}, {most, none, none}, {infinite, none, none}, {none, none, none}, {0x1p996, 0x1p996, 0}, {0x1p997, none, none}, {least, least, 0},
	} {
		if upper, lower := Split(c.a); !alike(upper, c.upper) || !alike(lower, c.lower) {
			t.Errorf("Split(%v): %v, %v, not %v, %v", c.a, upper, lower, c.upper, c.lower)
		}
	}
}

// wantGrow goes by the words of promise 5.8.
func wantGrow(e []float64, x float64) []float64 {
	var l []float64
	q := x
	for _, y := range e {
		s, t := Two(q, y)
		if t != 0 {
			l = append(l, t)
		}
		q = s
	}
	if q != 0 {
		l = append(l, q)
	}
	return l
}

// Promise 5.8: Grow, of anything.
func TestGrow(t *testing.T) {
	for _, c := range []struct {
		e    []float64
		x    float64
		want []float64
	}{
		{nil, 5, []float64{5}}, {nil, 0, nil}, {nil, below0, nil}, {nil, none, []float64{none}}, {nil, infinite, []float64{infinite}}, {[]float64{1}, 0x1p-60, []float64{0x1p-60, 1}}, {[]float64{1}, -1, nil}, {[]float64{0x1p-60, 1}, -1, []float64{0x1p-60}}, {[]float64{0x1p-60, 1}, -0x1p-60, []float64{1}}, {[]float64{0, below0, 0}, 0, nil}, {[]float64{0, 3, below0}, 0, []float64{3}}, {[]float64{1, 0x1p-60}, 0, []float64{0x1p-60, 1}},
		{[]float64{1}, none, []float64{none, none}}, {[]float64{1, none, 2}, 3, []float64{none, none, none}}, {[]float64{1, none, 2}, 0x1p-60, []float64{0x1p-60, none, none, none}}, {[]float64{1, 2}, infinite, []float64{none, none, infinite}}, {[]float64{most}, most, []float64{none, infinite}}, {[]float64{infinite}, -infinite, []float64{none, none}}, {[]float64{1, infinite, 2}, 4, []float64{none, none, infinite}}, {[]float64{most, 1}, -0x3p970, []float64{none, 1, most - 0x1p971}},
	} {
		if l := Grow(c.e, c.x); !alikeLists(l, c.want) {
			t.Errorf("Grow(%v, %v): %v, not %v", c.e, c.x, l, c.want)
		}
	}
	s := source(14)
	for _, e := range lists() {
		for _, x := range []float64{s.between(-1074, 1023), s.between(-60, 60), edges()[s.below(len(edges()))]} {
			if l := Grow(e, x); !alikeLists(l, wantGrow(e, x)) {
				t.Fatalf("Grow(%v, %v): %v, not %v", e, x, l, wantGrow(e, x))
			}
		}
	}
	// An expansion may be longer than a list that is summed.
	if l := Grow(many(1, 1), 1); len(l) != 1 || l[0] != api.MaxSum+2 {
		t.Error(len(l))
	}
}

// Promise 5.8: Expand is Grow of nothing by each number in turn.
func TestExpand(t *testing.T) {
	for _, l := range lists() {
		var want []float64
		for _, x := range l {
			want = wantGrow(want, x)
		}
		if e, err := Expand(l...); !alikeLists(e, want) || err != api.OK {
			t.Fatalf("Expand of %v: %v, %d, not %v", l, e, err, want)
		}
	}
	for _, c := range []struct{ l, want []float64 }{
		{nil, nil}, {[]float64{0, below0}, nil}, {[]float64{1, 0x1p-60}, []float64{0x1p-60, 1}}, {[]float64{1, -1}, nil}, {[]float64{none, 1, 2}, []float64{none, none, none}}, {[]float64{1, 2, none}, []float64{none, none}}, {[]float64{1, infinite}, []float64{none, infinite}}, {[]float64{1, infinite, 2}, []float64{none, none, none}}, {[]float64{most, -0x3p970}, []float64{none, most - 0x1p971}}, {[]float64{most, -0x3p970, 1}, []float64{none, none, none}}, {[]float64{1, most, most}, []float64{1, none, infinite}}, {[]float64{1, most, most, 0x1p-100}, []float64{0x1p-100, none, none, none}}, {[]float64{1, most, most, 0x1p-100, 0x1p-100}, []float64{none, none, none, none}},
	} {
		if e, err := Expand(c.l...); !alikeLists(e, c.want) || err != api.OK {
			t.Errorf("Expand of %v: %v, %d, not %v", c.l, e, err, c.want)
		}
	}
}

// Promise 5.8: Expand of as many numbers as there may be, also where each makes it longer.
func TestExpandOfMaxSum(t *testing.T) {
	if e, err := Expand(many(0, none)...); len(e) != api.MaxSum || slices.ContainsFunc(e, func(x float64) bool { return !isNone(x) }) || err != api.OK {
		t.Error(len(e), err)
	}
	if e, err := Expand(many(0, infinite)...); len(e) != api.MaxSum || err != api.OK {
		t.Error(len(e), err)
	}
	l := many(0, 0x1p-300)
	l[0], l[3] = 1, infinite
	if e, err := Expand(l...); len(e) != api.MaxSum-1 || err != api.OK {
		t.Error(len(e), err)
	}
	if e, err := Expand(many(0, 1)...); !alikeLists(e, []float64{api.MaxSum}) || err != api.OK {
		t.Error(e, err)
	}
	s := source(15)
	for i := range l {
		l[i] = s.between(-1074, 1000)
	}
	e, err := Expand(l...)
	if n, ok, _ := Compare(e, l); n != 0 || !ok || err != api.OK {
		t.Error(len(e), err)
	}
}

// Promise 5.10: Expand loses nothing, where all operations are finite.
func TestExpandLosesNothing(t *testing.T) {
	for _, l := range lists() {
		e, _ := Expand(l...)
		if !allFinite(l) || !allFinite(e) {
			continue
		}
		sum, want := trueSum(e), trueSum(l)
		if sum.Cmp(want) != 0 {
			t.Fatalf("Expand of %v: %v", l, e)
		}
		if x, y := good(t)(Exact(e...)), good(t)(Exact(l...)); x != y {
			t.Fatalf("Exact of Expand of %v: %v, not %v", l, x, y)
		}
		if n, ok, err := Compare(l, e); n != 0 || !ok || err != api.OK {
			t.Fatalf("Compare of %v and its expansion: %d, %v, %d", l, n, ok, err)
		}
		if want.Cmp(big.NewFloat(0)) == 0 && len(e) != 0 {
			t.Fatalf("Expand of %v: %v", l, e)
		}
	}
}
