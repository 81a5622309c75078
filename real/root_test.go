package real

import (
	"math"
	"math/big"
	"slices"
	"testing"
)

// wantSqrt is the float nearest to the root, told by squares.
func wantSqrt(x float64) float64 {
	switch {
	case x == 0 || isNone(x) || math.IsInf(x, 1):
		return x
	case x < 0:
		return math.NaN()
	}
	n := number64(x)
	return math.Float64frombits(size64.wantNearest(func(v *big.Float) int {
		return new(big.Float).SetPrec(exact).Mul(v, v).Cmp(n)
	}))
}

// squares are squares that are not rounded, and what lies beside them.
func squares() []float64 {
	var l []float64
	add := func(x float64) { l = append(l, math.Nextafter(x, 0), x, math.Nextafter(x, math.Inf(1))) }
	for n := range 40 {
		add(float64(n * n))
	}
	for _, n := range []uint64{1<<26 - 1, 1<<26 - 3, 94906265, 94906264, 67108865, 1 << 25} {
		for _, shift := range []int{0, 2, -2, 400, -400, 900, -900, -1074, -1072} {
			add(math.Ldexp(float64(n*n), shift))
		}
	}
	return l
}

// Promise 4.7: Sqrt.
func TestSqrt(t *testing.T) {
	for _, x := range append(floats64(), squares()...) {
		if y := Sqrt(x); !alike(y, wantSqrt(x)) {
			t.Errorf("Sqrt(%v): %v, not %v", x, y, wantSqrt(x))
		}
	}
	for _, c := range []struct{ x, want float64 }{
		{2, 1.4142135623730951}, {4, 2}, {0, 0}, {minus(0), minus(0)}, {math.Inf(1), math.Inf(1)}, {math.Inf(-1), math.NaN()}, {-5e-324, math.NaN()}, {-4, math.NaN()}, {5e-324, 0x1p-537}, {math.MaxFloat64, 0x1p512 - 0x1p459},
		{math.NaN(), math.NaN()}, {minus(math.NaN()), math.NaN()},
	} {
		if y := Sqrt(c.x); !alike(y, c.want) {
			t.Errorf("Sqrt(%v): %v, not %v", c.x, y, c.want)
		}
	}
}

// Promise 4.7: Sqrt of many floats is the machine's own root.
func TestSqrtOfMany(t *testing.T) {
	some := source(6)
	for range 200000 {
		for _, x := range []float64{some.float(), some.near(2), math.Float64frombits(some.bits() >> (12 + some.bits()%50))} {
			if y := Sqrt(x); !alike(y, math.Sqrt(x)) {
				t.Fatalf("Sqrt(%v): %v, not %v", x, y, math.Sqrt(x))
			}
		}
	}
}

// Promise 4.10: Sqrt rises, and of a square that was not rounded it is the number's size.
func TestSqrtFollows(t *testing.T) {
	l := slices.DeleteFunc(append(numbers64(), squares()...), func(x float64) bool { return x < 0 })
	slices.Sort(l)
	for i := range len(l) - 1 {
		if Sqrt(l[i]) > Sqrt(l[i+1]) {
			t.Errorf("Sqrt(%v) is above Sqrt(%v)", l[i], l[i+1])
		}
	}
	some := source(7)
	for range 20000 {
		x := math.Ldexp(float64(int64(some.bits())>>37), int(some.bits()%900)-450)
		if !alike(Sqrt(x*x), math.Abs(x)) {
			t.Fatalf("Sqrt of %v squared: %v", x, Sqrt(x*x))
		}
	}
}
