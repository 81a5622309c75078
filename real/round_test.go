package real

import (
	"math"
	"math/big"
	"testing"
)

// farExponents are exponents of any size.
var farExponents = []int{math.MinInt, math.MinInt + 1, math.MinInt + 1074, math.MinInt32, -100000, -5000, 5000, 100000, math.MaxInt32, math.MaxInt - 1074, math.MaxInt - 1, math.MaxInt}

// Promise 4.4: Narrow of floats of all kinds.
func TestNarrow(t *testing.T) {
	for _, x := range floats64() {
		checkNarrow(t, x)
	}
	for _, c := range []struct {
		x    float64
		want float32
	}{
		{16777217, 16777216}, {16777219, 16777220}, {-16777217, -16777216}, {3.4028235677973366e38, float32(math.Inf(1))}, {math.Nextafter(3.4028235677973366e38, 0), math.MaxFloat32},
		{1e-46, 0}, {0x1p-150, 0}, {math.Nextafter(0x1p-150, 1), 0x1p-149}, {0x3p-150, 0x1p-148}, {math.Nextafter(0x3p-150, 0), 0x1p-149}, {math.MaxFloat64, float32(math.Inf(1))}, {5e-324, 0},
		{0x1p-126 - 0x1p-150, 0x1p-126}, {0x1p-126 - 0x3p-150, 0x1p-126 - 0x1p-148}, {math.Inf(-1), float32(math.Inf(-1))},
	} {
		if y := Narrow(c.x); math.Float32bits(y) != math.Float32bits(c.want) {
			t.Errorf("Narrow(%v): %v, not %v", c.x, y, c.want)
		}
	}
	for _, x := range []float64{-1e-46, -0x1p-150, minus(0), -5e-324} {
		if y := Narrow(x); math.Float32bits(y) != 1<<31 {
			t.Errorf("Narrow(%v): %v, not -0", x, y)
		}
	}
}

func checkNarrow(t *testing.T, x float64) {
	t.Helper()
	y := Narrow(x)
	if isNone(x) {
		if !math.IsNaN(float64(y)) {
			t.Errorf("Narrow of %x: %v", math.Float64bits(x), y)
		}
	} else if want := size32.wantOf(x, 0); uint64(math.Float32bits(y)) != want {
		t.Errorf("Narrow(%v): %x, not %x", x, math.Float32bits(y), want)
	}
}

// Promise 4.4: Narrow at what is halfway between two floats of 32 bits, and beside it.
func TestNarrowHalfway(t *testing.T) {
	for _, x := range halfways(size32) {
		checkNarrow(t, x)
	}
}

// halfways are the numbers halfway between the floats at the edges of a size and the next ones, and their neighbours, with both signs.
func halfways(s size) []float64 {
	var l []float64
	for _, b := range s.bitsAtEdges() {
		if b >= s.infinite() {
			continue
		}
		sum := new(big.Float).SetPrec(exact).Add(s.sizeOfBits(b), s.sizeOfBits(b+1))
		x, _ := sum.Quo(sum, big.NewFloat(2)).Float64()
		for _, y := range []float64{math.Nextafter(x, 0), x, math.Nextafter(x, math.Inf(1))} {
			l = append(l, y, -y)
		}
	}
	return l
}

// Promise 4.4: Narrow of many floats is what the machine's own rounding answers.
func TestNarrowOfMany(t *testing.T) {
	some := source(3)
	for range 300000 {
		for _, x := range []float64{some.float(), some.near(160)} {
			if y := Narrow(x); !isNone(x) && math.Float32bits(y) != math.Float32bits(float32(x)) {
				t.Fatalf("Narrow(%v): %v, not %v", x, y, float32(x))
			}
		}
	}
}

// Promise 4.4: Widen; and 4.6: Narrow of Widen is the same bits.
func TestWiden(t *testing.T) {
	check := func(b uint64) {
		x := math.Float32frombits(uint32(b))
		y, f := Widen(x), size32.wantParts(b)
		switch {
		case f.Kind == 4:
			if !isNone(y) {
				t.Errorf("Widen of %x: %v", b, y)
			}
			return
		case f.Kind == 3 && !math.IsInf(y, 0), f.Neg != math.Signbit(y):
			t.Errorf("Widen(%v): %v", x, y)
		case f.Kind != 3 && new(big.Float).Abs(number64(y)).Cmp(whole(f.Mant, f.Exp)) != 0:
			t.Errorf("Widen(%v): %v", x, y)
		}
		if uint64(math.Float32bits(Narrow(y))) != b {
			t.Errorf("Narrow of Widen of %x: %x", b, math.Float32bits(Narrow(y)))
		}
	}
	for _, b := range size32.bitsAtEdges() {
		check(b)
	}
	for b := uint64(0); b < 1<<32; b += 400009 {
		check(b)
	}
}

// Promise 4.6: Narrow rises.
func TestNarrowRises(t *testing.T) {
	l := append(numbers64(), halfways(size32)...)
	for _, x := range l {
		for _, y := range l {
			if x <= y && Narrow(x) > Narrow(y) {
				t.Fatalf("Narrow(%v) is above Narrow(%v)", x, y)
			}
		}
	}
}

// Promise 4.4: Scale, rounded once.
func TestScale(t *testing.T) {
	exponents := []int{0, 1, -1, 2, -2, 51, -51, 52, -52, 53, -53, 54, -54, 63, -63, 64, -64, 65, -65, 970, -970, 971, 1022, -1022, 1023, -1023, 1024, -1024, 1073, -1073, 1074, -1074, 1075, -1075, 1076, -1076, 2046, -2046, 2097, -2097, 2098, -2098, 2099, -2099, 2100, -2100}
	for i, x := range numbers64() {
		for j, n := range exponents {
			if (i+j)%3 != 0 && i > 200 {
				continue
			}
			want := x
			if !math.IsInf(x, 0) && x != 0 {
				scaled := number64(x)
				want = math.Float64frombits(size64.wantRounded(scaled.SetMantExp(scaled, n), math.Signbit(x)))
			}
			if y := Scale(x, n); !alike(y, want) {
				t.Fatalf("Scale(%v, %d): %v, not %v", x, n, y, want)
			}
		}
	}
}

// Promise 4.4: Scale by exponents of any size.
func TestScaleFar(t *testing.T) {
	for _, x := range floats64() {
		for _, n := range farExponents {
			want := x
			switch {
			case isNone(x) || math.IsInf(x, 0) || x == 0:
			case n < 0:
				want = math.Copysign(0, x)
			default:
				want = math.Copysign(math.Inf(1), x)
			}
			if y := Scale(x, n); !alike(y, want) {
				t.Fatalf("Scale(%v, %d): %v, not %v", x, n, y, want)
			}
		}
		if isNone(x) && (!isNone(Scale(x, 0)) || !isNone(Scale(x, 1)) || !isNone(Scale(x, -1))) {
			t.Errorf("Scale of %x", math.Float64bits(x))
		}
	}
}

// Promise 4.4: Scale at its halfway cases.
func TestScaleHalfway(t *testing.T) {
	least := 5e-324
	for _, c := range []struct {
		x    float64
		n    int
		want float64
	}{
		{1, -1075, 0}, {-1, -1075, minus(0)}, {3, -1075, 2 * least}, {5, -1075, 2 * least}, {7, -1075, 4 * least}, {math.Nextafter(1, 2), -1075, least}, {1, -1074, least}, {1, -1076, 0}, {3, -1076, least},
		{1<<53 - 1, -1075, 0x1p-1022}, {1<<53 - 3, -1075, 0x1p-1022 - 2*least}, {least, 1074, 1}, {least, 2097, 0x1p1023}, {least, 2098, math.Inf(1)}, {-1, 1024, math.Inf(-1)}, {1, 1023, 0x1p1023},
		{math.MaxFloat64, 1, math.Inf(1)}, {math.MaxFloat64, -2097, 2 * least}, {math.MaxFloat64, -2098, least}, {math.MaxFloat64, -2099, 0}, {0x1p-1022, -52, least}, {0x1p-1022, -53, 0}, {0x1.8p-1022, -53, least}, {0x1.8p-1022, -52, 2 * least},
	} {
		if y := Scale(c.x, c.n); !alike(y, c.want) {
			t.Errorf("Scale(%v, %d): %v, not %v", c.x, c.n, y, c.want)
		}
	}
}

// Promise 4.6: Scale there and back is x, where nothing was rounded.
func TestScaleBack(t *testing.T) {
	for _, x := range numbers64() {
		for _, n := range []int{0, 1, -1, 10, -10, 52, -52, 500, -500, 1000, -1000, 2000, -2000} {
			y := Scale(x, n)
			if math.IsInf(y, 0) && !math.IsInf(x, 0) || y == 0 && x != 0 {
				continue
			}
			if !math.IsInf(x, 0) {
				scaled := number64(x)
				if number64(y).Cmp(scaled.SetMantExp(scaled, n)) != 0 {
					continue
				}
			}
			if z := Scale(y, -n); !alike(z, x) {
				t.Fatalf("Scale by %d and back of %v: %v", n, x, z)
			}
		}
	}
}

// someMants are whole numbers at both ends, about the powers of two and halfway between floats.
func someMants() []int64 {
	l := []int64{0, math.MaxInt64, math.MaxInt64 - 1, math.MinInt64, math.MinInt64 + 1, 9007199254740993, 9007199254740995, 3, 5, 7}
	for n := range 63 {
		for _, m := range []int64{1<<n - 1, 1 << n, 1<<n + 1, 3 << n >> 1} {
			l = append(l, m, -m)
		}
	}
	for n := 54; n < 63; n++ {
		middle := int64(1) << (n - 54)
		for _, m := range []int64{1<<n - 1<<(n-54), 1<<(n-1) + middle, 1<<(n-1) + 3*middle, 1<<(n-1) + middle/2} {
			l = append(l, m-1, m, m+1, -m, -m-1, -m+1)
		}
	}
	some := source(4)
	for range 100 {
		l = append(l, int64(some.bits()), int64(some.bits()>>(some.bits()%64)))
	}
	return l
}

// Promise 4.4: Near.
func TestNear(t *testing.T) {
	for i, m := range someMants() {
		for j, exp := range []int{0, 1, -1, -10, -63, -64, 900, 907, 908, 909, 910, 959, 960, 961, 962, 970, 971, 1022, 1023, 1024, -1000, -1021, -1022, -1023, -1073, -1074, -1075, -1076, -1085, -1127, -1136, -1137, -1138, -1139, -2000, 2000} {
			if (i+j)%4 != 0 && i > 100 {
				continue
			}
			size := new(big.Int).Abs(big.NewInt(m)).Uint64()
			want := math.Float64frombits(size64.wantRounded(whole(size, exp), m < 0))
			if x := Near(m, exp); !alike(x, want) {
				t.Fatalf("Near(%d, %d): %v, not %v", m, exp, x, want)
			}
		}
		for _, exp := range farExponents {
			want := 0.0
			if m != 0 && exp > 0 {
				want = math.Inf(1)
			}
			if m < 0 {
				want = -want
				want = math.Copysign(want, -1)
			}
			if x := Near(m, exp); !alike(x, want) {
				t.Fatalf("Near(%d, %d): %v, not %v", m, exp, x, want)
			}
		}
	}
}

// Promise 4.4: Near at its halfway cases.
func TestNearHalfway(t *testing.T) {
	for _, c := range []struct {
		mant int64
		exp  int
		want float64
	}{
		{9007199254740993, 0, 9007199254740992}, {9007199254740995, 0, 9007199254740996}, {-9007199254740993, 0, -9007199254740992}, {0, 0, 0}, {0, math.MaxInt, 0}, {0, math.MinInt, 0}, {0, -1, 0},
		{1<<54 - 1, 970, math.Inf(1)}, {1<<54 - 2, 970, math.MaxFloat64}, {-(1<<54 - 1), 970, math.Inf(-1)}, {1<<62 - 1<<8, 962, math.Inf(1)}, {1<<62 - 1<<8 - 1, 962, math.MaxFloat64},
		{1, -1075, 0}, {-1, -1075, minus(0)}, {1 << 62, -1137, 0}, {1<<62 + 1, -1137, 5e-324}, {math.MaxInt64, -1137, 5e-324}, {math.MaxInt64, -1136, 1e-323}, {math.MinInt64, -1138, minus(0)}, {math.MinInt64, -1137, -5e-324}, {math.MinInt64, 961, math.Inf(-1)}, {math.MinInt64, 960, -0x1p1023},
		{math.MaxInt64, 0, 0x1p63}, {math.MinInt64, 0, -0x1p63}, {1<<53 - 1, -1075, 0x1p-1022},
	} {
		if x := Near(c.mant, c.exp); !alike(x, c.want) {
			t.Errorf("Near(%d, %d): %v, not %v", c.mant, c.exp, x, c.want)
		}
	}
}

// Promise 4.5: Even, held against the floor of the exact number.
func TestEven(t *testing.T) {
	for _, x := range floats64() {
		want := x
		if !isNone(x) && !math.IsInf(x, 0) {
			want = wantEven(x)
		}
		if y := Even(x); !alike(y, want) {
			t.Errorf("Even(%v): %v, not %v", x, y, want)
		}
	}
	for _, c := range []struct{ x, want float64 }{
		{2.5, 2}, {-0.4, minus(0)}, {0.5, 0}, {-0.5, minus(0)}, {1.5, 2}, {-1.5, -2}, {-2.5, -2}, {math.Nextafter(0.5, 1), 1}, {math.Nextafter(2.5, 3), 3}, {math.Nextafter(2.5, 2), 2}, {0, 0}, {minus(0), minus(0)},
		{5e-324, 0}, {-5e-324, minus(0)}, {1<<52 - 0.5, 1 << 52}, {1<<51 + 0.5, 1 << 51}, {1<<51 + 1.5, 1<<51 + 2}, {1<<52 + 1, 1<<52 + 1}, {math.MaxFloat64, math.MaxFloat64}, {math.Inf(-1), math.Inf(-1)},
	} {
		if y := Even(c.x); !alike(y, c.want) {
			t.Errorf("Even(%v): %v, not %v", c.x, y, c.want)
		}
	}
	some := source(5)
	for range 100000 {
		if x := some.near(70); !alike(Even(x), math.RoundToEven(x)) {
			t.Fatalf("Even(%v): %v", x, Even(x))
		}
	}
}

// wantEven tries the whole numbers about a finite number.
func wantEven(x float64) float64 {
	floor, _ := new(big.Float).Abs(number64(x)).Int(nil)
	rest := new(big.Float).SetPrec(exact).Sub(new(big.Float).Abs(number64(x)), new(big.Float).SetPrec(exact).SetInt(floor))
	if c := rest.Cmp(big.NewFloat(0.5)); c > 0 || c == 0 && floor.Bit(0) == 1 {
		floor.Add(floor, big.NewInt(1))
	}
	y, _ := new(big.Float).SetPrec(exact).SetInt(floor).Float64()
	return math.Copysign(y, x)
}

// Promise 4.5: Whole.
func TestWhole(t *testing.T) {
	for _, x := range floats64() {
		want, isWhole := int64(0), false
		if !isNone(x) && !math.IsInf(x, 0) && number64(x).IsInt() {
			n, _ := number64(x).Int(nil)
			if n.IsInt64() {
				want, isWhole = n.Int64(), true
			}
		}
		if n, ok := Whole(x); n != want || ok != isWhole {
			t.Errorf("Whole(%v): %d, %v, not %d, %v", x, n, ok, want, isWhole)
		}
	}
	for _, c := range []struct {
		x    float64
		want int64
		ok   bool
	}{
		{9223372036854775808, 0, false}, {math.Nextafter(1<<63, 0), math.MaxInt64 - 1023, true}, {-9223372036854775808, math.MinInt64, true}, {math.Nextafter(-1<<63, math.Inf(-1)), 0, false}, {minus(0), 0, true}, {0, 0, true},
		{0.5, 0, false}, {-0.5, 0, false}, {5e-324, 0, false}, {1, 1, true}, {-1, -1, true}, {1<<52 + 0.5 - 0.5, 1 << 52, true}, {1<<51 + 0.5, 0, false}, {1e300, 0, false}, {math.Inf(1), 0, false}, {math.NaN(), 0, false},
	} {
		if n, ok := Whole(c.x); n != c.want || ok != c.ok {
			t.Errorf("Whole(%v): %d, %v, not %d, %v", c.x, n, ok, c.want, c.ok)
		}
	}
}

// Promise 4.7: Modf; and 4.10: both sum to x, exactly.
func TestModf(t *testing.T) {
	for _, x := range floats64() {
		a, b := Modf(x)
		switch {
		case isNone(x):
			if !isNone(a) || !isNone(b) {
				t.Errorf("Modf of %x: %v, %v", math.Float64bits(x), a, b)
			}
			continue
		case math.IsInf(x, 0):
			if !alike(a, x) || !alike(b, math.Copysign(0, x)) {
				t.Errorf("Modf(%v): %v, %v", x, a, b)
			}
			continue
		}
		n, _ := number64(x).Int(nil)
		want, _ := new(big.Float).SetPrec(exact).SetInt(n).Float64()
		if !alike(a, math.Copysign(want, x)) || math.Signbit(b) != math.Signbit(x) {
			t.Errorf("Modf(%v): %v, %v", x, a, b)
		}
		if sum := new(big.Float).SetPrec(exact).Add(number64(a), number64(b)); sum.Cmp(number64(x)) != 0 {
			t.Errorf("Modf(%v): %v, %v", x, a, b)
		}
	}
	for _, c := range []struct{ x, a, b float64 }{
		{-2.5, -2, -0.5}, {2, 2, 0}, {-2, -2, minus(0)}, {0.75, 0, 0.75}, {-0.75, minus(0), -0.75}, {0, 0, 0}, {minus(0), minus(0), minus(0)}, {5e-324, 0, 5e-324}, {math.Inf(-1), math.Inf(-1), minus(0)}, {1<<52 - 0.5, 1<<52 - 1, 0.5},
	} {
		if a, b := Modf(c.x); !alike(a, c.a) || !alike(b, c.b) {
			t.Errorf("Modf(%v): %v, %v, not %v, %v", c.x, a, b, c.a, c.b)
		}
	}
}
