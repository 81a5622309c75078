package total

import (
	"math"
	"slices"
	"testing"

	"postern/api"
)

// lesser is the lesser of two numbers, -0 below 0.
func lesser(x, y float64) float64 {
	switch {
	case isNone(x) || isNone(y):
		return none
	case x < y || x == y && math.Signbit(x):
		return x
	}
	return y
}

func greater(x, y float64) float64 { return -lesser(-x, -y) }

// Promise 5.9: a Running at each number, each operation rounded by itself (R7).
func TestRunning(t *testing.T) {
	for _, l := range lists() {
		r := NewRunning()
		m, s := 0.0, 0.0
		if v := r.Variance(); !alike(r.Mean(), 0) || !alike(v, 0) {
			t.Fatal(r.Mean(), v)
		}
		checkEnds(t, r, nil)
		for i, x := range l {
			n := float64(i + 1)
			d := less(x, m)
			m = plus(m, over(d, n))
			s = plus(s, times(d, less(x, m)))
			if e := r.Add(x); e != api.OK {
				t.Fatalf("Add: %d", e)
			}
			is(t, "Mean", l[:i+1], r.Mean(), m)
			is(t, "Variance", l[:i+1], r.Variance(), over(s, n))
			is(t, "Mean again", l[:i+1], r.Mean(), m)
			checkEnds(t, r, l[:i+1])
		}
	}
}

// checkEnds holds the least and the greatest number against all so far.
func checkEnds(t *testing.T, r *Running, l []float64) {
	t.Helper()
	a, b := 0.0, 0.0
	if len(l) > 0 {
		a, b = l[0], l[0]
	}
	for _, x := range l {
		a, b = lesser(a, x), greater(b, x)
	}
	x, ok := r.Least()
	y, also := r.Greatest()
	if !alike(x, a) || !alike(y, b) || ok != (len(l) > 0) || also != ok {
		t.Fatalf("of %v: %v, %v, %v, %v, not %v, %v", l, x, ok, y, also, a, b)
	}
}

// Promise 5.9: the chapter's example, noughts, infinite ones, none.
func TestRunningEdges(t *testing.T) {
	for _, c := range []struct {
		l                               []float64
		mean, variance, least, greatest float64
	}{
		{[]float64{1, 2, 3, 4}, 2.5, 1.25, 1, 4}, {[]float64{5}, 5, 0, 5, 5}, {[]float64{below0}, 0, 0, below0, below0}, {[]float64{0, below0}, 0, 0, below0, 0}, {[]float64{below0, 0}, 0, 0, below0, 0}, {[]float64{-1, -2}, -1.5, 0.25, -2, -1},
		{[]float64{1, none}, none, none, none, none}, {[]float64{none, 1}, none, none, none, none}, {[]float64{1, infinite}, infinite, none, 1, infinite}, {[]float64{1, infinite, 2}, none, none, 1, infinite}, {[]float64{infinite, -infinite}, none, none, -infinite, infinite}, {[]float64{most, most}, most, 0, most, most},
		{[]float64{1, -1, 0.5}, 0.5 / 3, 0.7222222222222222, -1, 1},
		// d (x - m) is rounded ahead of being added: 2^-29 + 2^-60 would come out otherwise.
		{[]float64{0, 2 * (1 + 0x1p-30)}, 1 + 0x1p-30, (2 + 0x1p-28) / 2, 0, 2 * (1 + 0x1p-30)},
	} {
		r := NewRunning()
		for _, x := range c.l {
			r.Add(x)
		}
		is(t, "Mean", c.l, r.Mean(), c.mean)
		is(t, "Variance", c.l, r.Variance(), c.variance)
		x, ok := r.Least()
		is(t, "Least", c.l, x, c.least)
		y, also := r.Greatest()
		is(t, "Greatest", c.l, y, c.greatest)
		if !ok || !also {
			t.Errorf("of %v: %v, %v", c.l, ok, also)
		}
	}
}

// Promise 5.9: the last number that is taken, and the first that is not; nothing changes by that.
func TestRunningOfMaxSum(t *testing.T) {
	r := NewRunning()
	for i := range api.MaxSum {
		if e := r.Add(float64(i % 2)); e != api.OK {
			t.Fatalf("Add of %d: %d", i, e)
		}
	}
	mean, variance := r.Mean(), r.Variance()
	for _, x := range []float64{7, -7, none, infinite} {
		if e := r.Add(x); e != api.ErrTerms {
			t.Errorf("Add of one more: %d", e)
		}
		is(t, "Mean", "MaxSum", r.Mean(), mean)
		is(t, "Variance", "MaxSum", r.Variance(), variance)
		checkEnds(t, r, []float64{0, 1})
	}
	if math.Abs(mean-0.5) > 1e-9 || math.Abs(variance-0.25) > 1e-9 {
		t.Error(mean, variance)
	}
}

// Promise 5.9: two Runnings know nothing of one another; a nil one takes nothing.
func TestRunningApart(t *testing.T) {
	a, b := NewRunning(), NewRunning()
	var l []float64
	for _, x := range []float64{3, none, 100} {
		checkEnds(t, b, l)
		a.Add(x)
		b.Add(2)
		l = append(l, 2)
	}
	is(t, "Mean", "a", a.Mean(), none)
	is(t, "Mean", "b", b.Mean(), 2)
	checkEnds(t, b, slices.Repeat([]float64{2}, 3))
	var r *Running
	if e := r.Add(1); e != api.ErrTerms {
		t.Error(e)
	}
	if !alike(r.Mean(), 0) || !alike(r.Variance(), 0) {
		t.Error(r.Mean(), r.Variance())
	}
	checkEnds(t, r, nil)
}
