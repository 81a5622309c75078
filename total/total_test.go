package total

import (
	"math"
	"slices"
	"testing"

	"postern/api"
)

// Promise 5.1: Sum adds in turn, from 0 and the first on.
func TestSum(t *testing.T) {
	for _, c := range []struct {
		l    []float64
		want float64
	}{
		{nil, 0}, {[]float64{5}, 5}, {[]float64{below0}, 0}, {[]float64{below0, below0}, 0}, {[]float64{0, below0}, 0}, {[]float64{1, tiny, tiny}, 1}, {[]float64{tiny, tiny, 1}, 1 + lastBit}, {[]float64{1e16, 1, 1}, 1e16}, {[]float64{1, 1, 1e16}, 1e16 + 2},
		{[]float64{0x1p1023, 0x1p1023, -0x1p1023}, infinite}, {[]float64{0x1p1023, -0x1p1023, 0x1p1023}, 0x1p1023}, {[]float64{most, 0x1p970}, infinite}, {[]float64{most, 0x1p969}, most}, {[]float64{-most, -0x1p970, most}, -infinite},
		{[]float64{infinite, 1, -5}, infinite}, {[]float64{infinite, -infinite}, none}, {[]float64{1, none}, none}, {[]float64{none, 1}, none}, {[]float64{least, least}, 2 * least}, {[]float64{0x1p-1022, -least}, 0x1p-1022 - least}, {[]float64{1, -1}, 0}, {[]float64{-1, 1}, 0},
	} {
		is(t, "Sum", c.l, good(t)(Sum(c.l...)), c.want)
	}
	for _, l := range lists() {
		is(t, "Sum", l, good(t)(Sum(l...)), wantSum(l))
	}
}

// Promise 5.1: Sum32 likewise, each sum rounded to binary32.
func TestSum32(t *testing.T) {
	const greatest = math.MaxFloat32
	inf := float32(math.Inf(1))
	minus := float32(below0)
	for _, c := range []struct {
		l    []float32
		want float32
	}{
		{nil, 0}, {[]float32{}, 0}, {[]float32{2.5}, 2.5}, {[]float32{minus}, 0}, {[]float32{minus, minus}, 0}, {[]float32{1, 0x1p-24, 0x1p-24}, 1}, {[]float32{0x1p-24, 0x1p-24, 1}, 1 + 0x1p-23}, {[]float32{16777216, 1, 1}, 16777216}, {[]float32{1, 1, 16777216}, 16777218},
		{[]float32{greatest, greatest, -greatest}, inf}, {[]float32{greatest, -greatest, greatest}, greatest}, {[]float32{greatest, 0x1p103}, inf}, {[]float32{greatest, 0x1p102}, greatest}, {[]float32{0x1p-149, 0x1p-149}, 0x1p-148}, {[]float32{0x1p-126, -0x1p-149}, 0x1p-126 - 0x1p-149},
		{[]float32{inf, 1}, inf}, {[]float32{-inf, 1}, -inf}, {[]float32{1, -1}, 0},
	} {
		if x, e := Sum32(c.l...); math.Float32bits(x) != math.Float32bits(c.want) || e != api.OK {
			t.Errorf("Sum32 of %v: %v, %d, not %v", c.l, x, e, c.want)
		}
	}
	for _, l := range [][]float32{{inf, -inf}, {float32(none)}, {1, float32(none), 2}, {inf, float32(none)}} {
		if x, e := Sum32(l...); x == x || e != api.OK {
			t.Errorf("Sum32 of %v: %v, %d", l, x, e)
		}
	}
	// Two floats of 32 bits that are near one another sum in 64 bits without loss, so that rounding that sum is one rounding.
	s := source(2)
	for range 3000 {
		l, want := make([]float32, s.below(30)), float32(0)
		for i := range l {
			l[i] = float32(s.between(-14, 14))
			want = float32(float64(want) + float64(l[i]))
		}
		if x, e := Sum32(l...); math.Float32bits(x) != math.Float32bits(want) || e != api.OK {
			t.Fatalf("Sum32 of %v: %v, %d, not %v", l, x, e, want)
		}
	}
}

// wantHalves takes the first half to be the floor of half of the numbers from a place on.
func wantHalves(l []float64, from, count int) float64 {
	if count == 0 {
		return 0
	}
	if count == 1 {
		return l[from]
	}
	first := int(math.Floor(float64(count) / 2))
	return plus(wantHalves(l, from, first), wantHalves(l, from+first, count-first))
}

// Promise 5.1: Halves.
func TestHalves(t *testing.T) {
	for _, c := range []struct {
		l    []float64
		want float64
	}{
		{nil, 0}, {[]float64{5}, 5}, {[]float64{below0}, below0}, {[]float64{below0, below0}, below0}, {[]float64{below0, 0}, 0}, {[]float64{1, tiny, tiny}, 1 + lastBit}, {[]float64{tiny, tiny, 1}, 1}, {[]float64{1, tiny, tiny, 0, tiny}, 1 + lastBit}, {[]float64{0, 1, tiny, tiny, 0}, 1 + lastBit}, {[]float64{1, 0, tiny, tiny, 0}, 1 + lastBit}, {[]float64{0, 1, tiny, 0, tiny}, 1 + lastBit}, {[]float64{tiny, 1, tiny, 0, 0}, 1},
		{[]float64{0x1p1023, 0x1p1023, -0x1p1023}, 0x1p1023}, {[]float64{0x1p1023, 0x1p1023, -0x1p1023, -0x1p1023}, none}, {[]float64{infinite, 1}, infinite}, {[]float64{infinite, -infinite}, none}, {[]float64{none}, none}, {[]float64{1, 2, none, 4}, none},
	} {
		is(t, "Halves", c.l, good(t)(Halves(c.l)), c.want)
	}
	for _, l := range lists() {
		is(t, "Halves", l, good(t)(Halves(l)), wantHalves(l, 0, len(l)))
	}
}

// Promise 5.1: Prefix is Sum of all beginnings; what is none makes none from its place on.
func TestPrefix(t *testing.T) {
	for _, l := range lists() {
		sums, e := Prefix(l)
		if len(sums) != len(l) || e != api.OK {
			t.Fatalf("Prefix of %v: %v, %d", l, sums, e)
		}
		for i := range l {
			is(t, "Prefix", l, sums[i], good(t)(Sum(l[:i+1]...)))
		}
	}
	sums, _ := Prefix([]float64{below0, 1, tiny, none, 2})
	if !alikeLists(sums, []float64{0, 1, 1, none, none}) {
		t.Error(sums)
	}
}

// Promise 5.2: Kept.
func TestKept(t *testing.T) {
	for _, c := range []struct {
		l         []float64
		sum, loss float64
	}{
		{nil, 0, 0}, {[]float64{5}, 5, 0}, {[]float64{below0}, 0, 0}, {[]float64{1, tiny, tiny}, 1 + lastBit, lastBit}, {[]float64{1, 0x1p100, 1, -0x1p100}, 2, 2}, {[]float64{1e16, 1, 1}, 1e16 + 2, 2}, {[]float64{tiny, 1}, 1, tiny}, {[]float64{tiny / 2, 1, tiny}, 1 + lastBit, tiny + tiny/2},
		{[]float64{most, most}, none, -infinite}, {[]float64{-most, -most}, none, infinite}, {[]float64{infinite}, none, none}, {[]float64{1, -infinite}, none, none}, {[]float64{none}, none, none}, {[]float64{1, none, 1}, none, none}, {[]float64{most, 0x1p969, -0x1p969}, most, 0},
	} {
		sum, loss, e := Kept(c.l)
		if !alike(sum, c.sum) || !alike(loss, c.loss) || e != api.OK {
			t.Errorf("Kept of %v: %v, %v, %d, not %v, %v", c.l, sum, loss, e, c.sum, c.loss)
		}
	}
	for _, l := range lists() {
		s, loss := 0.0, 0.0
		for _, x := range l {
			u := plus(s, x)
			lost := plus(less(x, u), s)
			if math.Abs(s) >= math.Abs(x) {
				lost = plus(less(s, u), x)
			}
			s, loss = u, plus(loss, lost)
		}
		sum, lost, e := Kept(l)
		if !alike(sum, plus(s, loss)) || !alike(lost, loss) || e != api.OK {
			t.Fatalf("Kept of %v: %v, %v, %d, not %v, %v", l, sum, lost, e, plus(s, loss), loss)
		}
	}
}

// Promise 5.6: Kept is Sum, where nothing was lost.
func TestKeptIsSum(t *testing.T) {
	s := source(3)
	for range 1000 {
		l := make([]float64, s.below(50))
		for i := range l {
			l[i] = float64(int(s.bits()>>20) - 1<<43)
		}
		sum, loss, e := Kept(l)
		if want := good(t)(Sum(l...)); !alike(sum, want) || loss != 0 || e != api.OK {
			t.Fatalf("Kept of %v: %v, %v, %d, not %v", l, sum, loss, e, want)
		}
	}
}

// wantBySize takes the first one of the least size, as long as there are numbers.
func wantBySize(l []float64) float64 {
	if slices.ContainsFunc(l, isNone) {
		return none
	}
	sum, left := 0.0, slices.Clone(l)
	for len(left) > 0 {
		at := 0
		for i, x := range left {
			if math.Abs(x) < math.Abs(left[at]) {
				at = i
			}
		}
		sum = plus(sum, left[at])
		left = slices.Delete(left, at, at+1)
	}
	return sum
}

// Promise 5.7: BySize, equal sizes as they stood.
func TestBySize(t *testing.T) {
	for _, c := range []struct {
		l    []float64
		want float64
	}{
		{nil, 0}, {[]float64{-3}, -3}, {[]float64{below0}, 0}, {[]float64{1e16, 1, 1}, 1e16 + 2}, {[]float64{0x1p53, 1, -0x1p53}, 0}, {[]float64{-0x1p53, 1, 0x1p53}, 1}, {[]float64{1, 0x1p53, -0x1p53}, 0}, {[]float64{-0x1p53, 0x1p53, 1}, 1},
		{[]float64{most, most, -most}, infinite}, {[]float64{most, -most, most}, most}, {[]float64{infinite, 1}, infinite}, {[]float64{-infinite, most, most}, none}, {[]float64{infinite, -infinite}, none}, {[]float64{none, 1}, none}, {[]float64{2, none, 1}, none},
	} {
		is(t, "BySize", c.l, good(t)(BySize(c.l)), c.want)
	}
	for _, l := range lists() {
		is(t, "BySize", l, good(t)(BySize(l)), wantBySize(l))
	}
	// Few sizes of both signs and many numbers: any other order of equal ones sums to something else.
	s := source(4)
	for range 300 {
		l := make([]float64, 100+s.below(100))
		for i := range l {
			l[i] = math.Ldexp(float64(1-2*s.below(2)), []int{0, 52, 53, 54}[s.below(4)])
		}
		is(t, "BySize", l, good(t)(BySize(l)), wantBySize(l))
	}
}

// Promise 5.3: Dot, each product rounded by itself (R7).
func TestDot(t *testing.T) {
	for _, c := range []struct {
		a, b []float64
		want float64
	}{
		{nil, nil, 0}, {[]float64{}, nil, 0}, {[]float64{below0}, []float64{1}, 0}, {[]float64{2, 3}, []float64{5, 7}, 31}, {[]float64{0x1p600}, []float64{0x1p600}, infinite}, {[]float64{0x1p-600}, []float64{0x1p-600}, 0}, {[]float64{0x1p600, 0x1p600}, []float64{0x1p600, -0x1p600}, none},
		{[]float64{0}, []float64{infinite}, none}, {[]float64{infinite}, []float64{-2}, -infinite}, {[]float64{1, none}, []float64{1, 0}, none}, {[]float64{1, 0}, []float64{1, none}, none}, {[]float64{1, 1, 1}, []float64{1, tiny, tiny}, 1},
		// The product is 1 + 2^-29 + 2^-60, of which the last is lost.
		{[]float64{-(1 + 0x1p-29), 1 + 0x1p-30}, []float64{1, 1 + 0x1p-30}, 0},
	} {
		is(t, "Dot", [][]float64{c.a, c.b}, good(t)(Dot(c.a, c.b)), c.want)
	}
	for _, p := range pairsOfLists() {
		want := 0.0
		for i := range p[0] {
			want = plus(want, times(p[0][i], p[1][i]))
		}
		is(t, "Dot", p, good(t)(Dot(p[0], p[1])), want)
	}
}

// pairsOfLists are lists, and others of the same lengths.
func pairsOfLists() [][2][]float64 {
	var pairs [][2][]float64
	s := source(5)
	for _, l := range lists() {
		other := s.list(len(l))
		turned := slices.Clone(l)
		slices.Reverse(turned)
		pairs = append(pairs, [2][]float64{l, other}, [2][]float64{l, turned}, [2][]float64{other, l})
	}
	return pairs
}

// Promise 5.4: Poly, each product rounded by itself (R7).
func TestPoly(t *testing.T) {
	for _, c := range []struct {
		c       []float64
		x, want float64
	}{
		{nil, 3, 0}, {nil, none, 0}, {[]float64{}, infinite, 0}, {[]float64{5}, 3, 5}, {[]float64{5}, none, 5}, {[]float64{below0}, 3, below0}, {[]float64{1, 2}, 3, 7}, {[]float64{1, 2, 3}, 10, 321}, {[]float64{1, none}, 0, none}, {[]float64{none, 1}, 0, none}, {[]float64{none}, 0, none},
		{[]float64{1, 0}, infinite, none}, {[]float64{1, -1}, infinite, -infinite}, {[]float64{-most, 0x1p1000}, 0x1p1000, infinite}, {[]float64{below0, below0}, 5, below0}, {[]float64{0, below0}, 5, 0}, {[]float64{1, 1}, none, none},
		{[]float64{-(1 + 0x1p-29), 1 + 0x1p-30}, 1 + 0x1p-30, 0}, {[]float64{1, tiny, 0, 1}, 0.5, 1.125},
	} {
		is(t, "Poly", c, good(t)(Poly(c.c, c.x)), c.want)
	}
	s := source(6)
	for _, l := range lists() {
		for _, x := range []float64{s.between(-3, 3), s.between(-1074, 1023), edges()[s.below(len(edges()))]} {
			want := 0.0
			for i := range l {
				if c := l[len(l)-1-i]; i == 0 {
					want = c
				} else {
					want = plus(times(want, x), c)
				}
			}
			is(t, "Poly", []any{l, x}, good(t)(Poly(l, x)), want)
		}
	}
}

// calls are all calls that take one list and may answer an error, each with how many numbers beside the error are not 0.
func calls() map[string]func(l []float64) (int, api.Errno) {
	some := func(l ...float64) (n int) {
		for _, x := range l {
			if math.Float64bits(x) != 0 {
				n++
			}
		}
		return n
	}
	one := func(f func(l []float64) (float64, api.Errno)) func(l []float64) (int, api.Errno) {
		return func(l []float64) (int, api.Errno) {
			x, e := f(l)
			return some(x), e
		}
	}
	return map[string]func(l []float64) (int, api.Errno){
		"Sum":       one(func(l []float64) (float64, api.Errno) { return Sum(l...) }),
		"Exact":     one(func(l []float64) (float64, api.Errno) { return Exact(l...) }),
		"Poly":      one(func(l []float64) (float64, api.Errno) { return Poly(l, 1) }),
		"Dot":       one(func(l []float64) (float64, api.Errno) { return Dot(l, l) }),
		"ExactDot":  one(func(l []float64) (float64, api.Errno) { return ExactDot(l, l) }),
		"Halves":    one(Halves),
		"Mean":      one(Mean),
		"Variance":  one(Variance),
		"Norm":      one(Norm),
		"Manhattan": one(Manhattan),
		"BySize":    one(BySize),
		"Sum32": func(l []float64) (int, api.Errno) {
			short := make([]float32, len(l))
			for i, x := range l {
				short[i] = float32(x)
			}
			x, e := Sum32(short...)
			return some(float64(x)), e
		},
		"Kept": func(l []float64) (int, api.Errno) {
			x, y, e := Kept(l)
			return some(x, y), e
		},
		"Prefix": func(l []float64) (int, api.Errno) {
			x, e := Prefix(l)
			return len(x), e
		},
		"Expand": func(l []float64) (int, api.Errno) {
			x, e := Expand(l...)
			return len(x), e
		},
		"Compare": func(l []float64) (int, api.Errno) {
			n, ok, e := Compare(l, nil)
			if ok {
				n++
			}
			return n, e
		},
	}
}

// Promise 5.1: a list of MaxSum numbers may be, one of one more may not, whatever stands in it; an empty one may be but where a promise says else.
func TestTooMany(t *testing.T) {
	for name, call := range calls() {
		l := many(0, 1)
		l[7] = 3
		if n, e := call(l); n == 0 || e != api.OK {
			t.Errorf("%s of MaxSum: %d, %d", name, n, e)
		}
		for _, l := range [][]float64{many(1, 1), many(1, 0), many(1, none), many(1, infinite), many(api.MaxSum, 1)} {
			if n, e := call(l); n != 0 || e != api.ErrTerms {
				t.Errorf("%s of one more: %d, %d", name, n, e)
			}
		}
		want := api.OK
		if name == "Mean" || name == "Variance" {
			want = api.ErrArg
		}
		for _, l := range [][]float64{nil, {}} {
			if n, e := call(l); n != 0 && name != "Compare" || e != want {
				t.Errorf("%s of none: %d, %d", name, n, e)
			}
		}
	}
	is(t, "Sum", "MaxSum", good(t)(Sum(many(0, 1)...)), api.MaxSum)
	is(t, "Halves", "MaxSum", good(t)(Halves(many(0, 0.1))), 0.1*api.MaxSum)
	is(t, "Dot", "MaxSum", good(t)(Dot(many(0, 2), many(0, 3))), 6*api.MaxSum)
}

// Promise 5.1: lists of unlike lengths; too many numbers are told first (R2).
func TestUnlike(t *testing.T) {
	for name, call := range map[string]func(a, b []float64) (float64, api.Errno){"Dot": Dot, "ExactDot": ExactDot} {
		for _, c := range []struct {
			a, b []float64
			want api.Errno
		}{
			{[]float64{1}, nil, api.ErrPairs}, {nil, []float64{1}, api.ErrPairs}, {[]float64{1, 2}, []float64{1}, api.ErrPairs}, {[]float64{none}, []float64{1, 2}, api.ErrPairs}, {many(0, 1), many(-1, 1), api.ErrPairs}, {nil, many(0, 1), api.ErrPairs},
			{many(1, 1), many(1, 1), api.ErrTerms}, {many(1, 1), many(0, 1), api.ErrTerms}, {many(0, 1), many(1, 1), api.ErrTerms}, {nil, many(1, 1), api.ErrTerms}, {many(1, 1), nil, api.ErrTerms}, {many(2, 1), many(1, 1), api.ErrTerms},
		} {
			if x, e := call(c.a, c.b); math.Float64bits(x) != 0 || e != c.want {
				t.Errorf("%s of %d and %d: %v, %d, not %d", name, len(c.a), len(c.b), x, e, c.want)
			}
		}
		if x, e := call(nil, []float64{}); math.Float64bits(x) != 0 || e != api.OK {
			t.Errorf("%s of none: %v, %d", name, x, e)
		}
	}
}

// R4: a list which came in stays as it was, with the spare room behind it.
func TestListsStay(t *testing.T) {
	for _, l := range lists() {
		given, stays := guarded(l)
		for name, call := range calls() {
			call(given)
			if !stays() {
				t.Fatalf("%s changed %v", name, l)
			}
		}
		Grow(given, 1)
		Grow(given, -0x1p53)
		other, otherStays := guarded(append([]float64{1, none}, l...))
		Compare(given, other)
		Compare(other, given)
		again, againStays := guarded(append([]float64{-7}, l...)[:len(l)])
		Dot(given, again)
		ExactDot(again, given)
		Poly(again, 3)
		if !stays() || !otherStays() || !againStays() {
			t.Fatalf("%v was changed", l)
		}
	}
}

// R4: what is handed out is new memory, spare room too.
func TestListsAreNew(t *testing.T) {
	for _, l := range [][]float64{{1}, {1, 2, 4}, {0x1p60, 1, 0x1p-60}, {1, none, 3}} {
		given, stays := guarded(l)
		for name, call := range map[string]func() []float64{
			"Prefix": func() []float64 { x, _ := Prefix(given); return x },
			"Expand": func() []float64 { x, _ := Expand(given...); return x },
			"Grow":   func() []float64 { return Grow(given, 0x1p-200) },
			"Grow 0": func() []float64 { return Grow(given, 0) },
		} {
			first := call()
			second := call()
			was := slices.Clone(second)
			first = first[:cap(first)]
			for i := range first {
				first[i] = -99
			}
			if !stays() || !alikeLists(second, was) {
				t.Errorf("%s of %v shares memory", name, l)
			}
		}
	}
}
