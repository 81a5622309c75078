package total

import (
	"math"
	"math/big"
	"testing"

	"postern/api"
)

// Promise 5.4: Mean.
func TestMean(t *testing.T) {
	for _, c := range []sumCase{
		{[]float64{5}, 5}, {[]float64{below0}, below0}, {[]float64{below0, below0}, below0}, {[]float64{below0, 0}, 0}, {[]float64{1, 2}, 1.5}, {[]float64{1, 1, 2}, 4.0 / 3}, {[]float64{1e300, 1, -1e300, 1}, 0.5}, {[]float64{least, 0}, 0}, {[]float64{-least, 0}, below0}, {[]float64{3 * least, 0}, 2 * least}, {[]float64{most, most}, infinite}, {[]float64{most, most, -most}, most / 3}, {[]float64{infinite, 1}, infinite}, {[]float64{-infinite, 1}, -infinite}, {[]float64{infinite, -infinite}, none}, {[]float64{1, none}, none},
		{many(0, 3), 3}, {many(0, most), infinite},
	} {
		is(t, "Mean", len(c.l), good(t)(Mean(c.l)), c.want)
	}
	for _, l := range lists() {
		if len(l) > 0 {
			is(t, "Mean", l, good(t)(Mean(l)), over(wantExact(l), float64(len(l))))
		}
	}
	for _, l := range [][]float64{nil, {}} {
		if x, e := Mean(l); math.Float64bits(x) != 0 || e != api.ErrArg {
			t.Errorf("Mean of none: %v, %d", x, e)
		}
	}
}

// Promise 5.7: Variance; and 5.10: it is not below 0, or none.
func TestVariance(t *testing.T) {
	for _, c := range []sumCase{
		{[]float64{1, 2, 3, 4}, 1.25}, {[]float64{5}, 0}, {[]float64{below0}, 0}, {[]float64{-3, -3, -3}, 0}, {[]float64{0x1p500, 0x1p500}, 0}, {[]float64{0x1p600, -0x1p600}, infinite}, {[]float64{0x1p511, -0x1p511}, 0x1p1022}, {[]float64{most, most}, infinite}, {[]float64{0x1p-600, -0x1p-600}, 0}, {[]float64{0x1p-537, -0x1p-537}, least}, {[]float64{infinite, 1}, none}, {[]float64{infinite}, none}, {[]float64{none, 1}, none}, {[]float64{1e9, 1e9 + 1}, 0.25},
		{many(0, 3), 0}, {many(0, none), none},
	} {
		is(t, "Variance", len(c.l), good(t)(Variance(c.l)), c.want)
	}
	for _, l := range lists() {
		if len(l) == 0 {
			if x, e := Variance(l); math.Float64bits(x) != 0 || e != api.ErrArg {
				t.Errorf("Variance of none: %v, %d", x, e)
			}
			continue
		}
		mean := over(wantExact(l), float64(len(l)))
		var d []float64
		for _, x := range l {
			d = append(d, less(x, mean))
		}
		v := good(t)(Variance(l))
		is(t, "Variance", l, v, over(wantExactDot(d, d), float64(len(l))))
		if v < 0 || math.Signbit(v) && !isNone(v) {
			t.Fatalf("Variance of %v: %v", l, v)
		}
	}
}

// Promise 5.7: Norm.
func TestNorm(t *testing.T) {
	for _, c := range []sumCase{
		{nil, 0}, {[]float64{3, 4}, 5}, {[]float64{-3, 4}, 5}, {[]float64{below0}, 0}, {[]float64{-7}, 7}, {[]float64{1, 1}, math.Sqrt2}, {[]float64{0x1p600}, infinite}, {[]float64{0x1p511}, 0x1p511}, {[]float64{0x1p-537}, 0x1p-537}, {[]float64{0x1p-538}, 0}, {[]float64{0x1p-538, 0x1p-538}, 0}, {[]float64{0x1p-538, 0x1p-538, 0x1p-538}, 0x1p-537}, {[]float64{infinite, 0}, infinite}, {[]float64{-infinite, infinite}, infinite}, {[]float64{none, 1}, none}, {[]float64{infinite, none}, none}, {[]float64{1, tiny}, 1}, {many(0, 1), 256},
	} {
		is(t, "Norm", len(c.l), good(t)(Norm(c.l)), c.want)
	}
	for _, l := range lists() {
		want := wantExactDot(l, l)
		if isFinite(want) && want != 0 {
			want = rounded(new(big.Float).SetPrec(room).Sqrt(number(want)))
		}
		is(t, "Norm", l, good(t)(Norm(l)), want)
	}
}

// Promise 5.7: Manhattan.
func TestManhattan(t *testing.T) {
	for _, c := range []sumCase{
		{nil, 0}, {[]float64{3, -4}, 7}, {[]float64{below0}, 0}, {[]float64{below0, below0}, 0}, {[]float64{-1, -tiny, -tiny}, 1 + lastBit}, {[]float64{1, -tiny}, 1}, {[]float64{1, -tiny, -least}, 1 + lastBit}, {[]float64{most, -most}, infinite}, {[]float64{infinite, -infinite}, infinite}, {[]float64{-infinite}, infinite}, {[]float64{1, none}, none}, {[]float64{none, infinite}, none}, {[]float64{math.Copysign(none, -1)}, none}, {many(0, -1), api.MaxSum},
	} {
		is(t, "Manhattan", len(c.l), good(t)(Manhattan(c.l)), c.want)
	}
	for _, l := range lists() {
		var sizes []float64
		for _, x := range l {
			sizes = append(sizes, math.Abs(x))
		}
		is(t, "Manhattan", l, good(t)(Manhattan(l)), wantExact(sizes))
	}
}
