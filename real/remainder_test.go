package real

import (
	"math"
	"math/big"
	"testing"
)

// wantRemainder reckons with whole numbers of the least float.
func wantRemainder(x, y float64) float64 {
	switch {
	case isNone(x) || isNone(y) || math.IsInf(x, 0) || y == 0:
		return math.NaN()
	case math.IsInf(y, 0):
		return x
	}
	a, b := inLeast(x), inLeast(y)
	size := new(big.Int).Abs(b)
	n, rest := new(big.Int).DivMod(a, size, new(big.Int))
	if c := new(big.Int).Lsh(rest, 1).Cmp(size); c > 0 || c == 0 && n.Bit(0) == 1 {
		rest.Sub(rest, size)
	}
	if rest.Sign() == 0 {
		return math.Copysign(0, x)
	}
	z, accuracy := new(big.Float).SetMantExp(new(big.Float).SetPrec(exact).SetInt(rest), -1074).Float64()
	if accuracy != big.Exact {
		panic("not exact")
	}
	return z
}

// Promise 4.7: Remainder; and 4.10: it is at most half of y in size.
func TestRemainder(t *testing.T) {
	l := floats64()
	for i, x := range l {
		for j, y := range l {
			if (i+j)%3 != 0 && (i > 170 || j > 170) {
				continue
			}
			z := Remainder(x, y)
			if want := wantRemainder(x, y); !alike(z, want) {
				t.Fatalf("Remainder(%v, %v): %v, not %v", x, y, z, want)
			}
			if !isNone(z) && !math.IsInf(y, 0) && new(big.Int).Lsh(inLeast(z), 1).CmpAbs(inLeast(y)) > 0 {
				t.Fatalf("Remainder(%v, %v): %v", x, y, z)
			}
		}
	}
}

// Promise 4.7: the edges that the chapter names.
func TestRemainderEdges(t *testing.T) {
	infinite, least := math.Inf(1), 5e-324
	for _, c := range []struct{ x, y, want float64 }{
		{5, 3, -1}, {-6, 3, minus(0)}, {6, 3, 0}, {6, -3, 0}, {1, infinite, 1}, {1, -infinite, 1}, {minus(0), infinite, minus(0)}, {0, 3, 0}, {minus(0), 3, minus(0)}, {minus(0), -1e300, minus(0)}, {minus(0), least, minus(0)},
		{1, 2, 1}, {3, 2, -1}, {5, 2, 1}, {-1, 2, -1}, {-3, 2, 1}, {-5, 2, -1}, {7, 2, -1}, {1, -2, 1}, {3, -2, -1}, {0.5, 1, 0.5}, {1.5, 1, -0.5}, {2.5, 1, 0.5}, {-2.5, -1, -0.5}, {1.25, 0.5, 0.25}, {1.75, 0.5, -0.25},
		{least, least, 0}, {-least, least, minus(0)}, {least, 2 * least, least}, {3 * least, 2 * least, -least}, {2 * least, 3 * least, -least}, {least, 1, least}, {math.MaxFloat64, least, 0}, {math.MaxFloat64, 3 * least, -least},
		{math.MaxFloat64, math.MaxFloat64, 0}, {math.MaxFloat64 / 2, math.MaxFloat64, math.MaxFloat64 / 2}, {math.Nextafter(math.MaxFloat64/2, infinite), math.MaxFloat64, -math.Nextafter(math.MaxFloat64/2, 0)},
		{0x1p53 - 1, 0x1p54, 0x1p53 - 1}, {0x1p53, 0x1p54, 0x1p53}, {0x1p53 + 2, 0x1p54, -0x1p53 + 2}, {0x3p53, 0x1p54, -0x1p53}, {0x1p53 - 1, 0x1p53 + 2, -3},
	} {
		if z := Remainder(c.x, c.y); !alike(z, c.want) {
			t.Errorf("Remainder(%v, %v): %v, not %v", c.x, c.y, z, c.want)
		}
	}
	for _, c := range []struct{ x, y float64 }{
		{infinite, 1}, {-infinite, 1}, {infinite, infinite}, {1, 0}, {1, minus(0)}, {0, 0}, {infinite, 0}, {math.NaN(), 1}, {1, math.NaN()}, {math.NaN(), infinite}, {math.NaN(), 0}, {infinite, math.NaN()}, {0, math.NaN()},
	} {
		if z := Remainder(c.x, c.y); !isNone(z) {
			t.Errorf("Remainder(%v, %v): %v", c.x, c.y, z)
		}
	}
}

// Promise 4.7: x over y halfway between two whole numbers, for all small ones, at several exponents.
func TestRemainderHalfway(t *testing.T) {
	for _, exp := range []int{0, -1074, -1060, 900} {
		for y := 2.0; y < 40; y++ {
			for n := -20.0; n < 20; n++ {
				x := y * (n + 0.5)
				want := y / 2
				if math.Mod(n, 2) != 0 {
					want = -want
				}
				if x != math.Trunc(x) || want != math.Trunc(want) {
					continue
				}
				if z := Remainder(math.Ldexp(x, exp), math.Ldexp(y, exp)); !alike(z, math.Ldexp(want, exp)) {
					t.Errorf("Remainder(%v, %v) times 2^%d: %v, not %v", x, y, exp, z, want)
				}
			}
		}
	}
}

// Promise 4.7: Remainder of many floats, near and far apart.
func TestRemainderOfMany(t *testing.T) {
	some := source(8)
	for range 20000 {
		x, y := some.near(3), some.near(3)
		if z := Remainder(x, y); !alike(z, wantRemainder(x, y)) {
			t.Fatalf("Remainder(%v, %v): %v, not %v", x, y, z, wantRemainder(x, y))
		}
		x, y = some.float(), some.float()
		if z := Remainder(x, y); !alike(z, wantRemainder(x, y)) {
			t.Fatalf("Remainder(%v, %v): %v, not %v", x, y, z, wantRemainder(x, y))
		}
	}
}
