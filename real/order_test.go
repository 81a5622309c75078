package real

import (
	"math"
	"math/big"
	"slices"
	"testing"
)

// wantOrder is the chapter's total order: first the stretch in which a float stands, then the number, or the fraction of no numbers.
func wantOrder(x, y float64) int {
	stretch := func(x float64) int {
		neg, e, f := size64.fields(math.Float64bits(x))
		n := 0
		switch {
		case e == 2047 && f != 0:
			n = 3
		case e == 2047:
			n = 2
		case e != 0 || f != 0:
			n = 1
		}
		if neg {
			return -1 - n
		}
		return n
	}
	a, b := stretch(x), stretch(y)
	_, _, f := size64.fields(math.Float64bits(x))
	_, _, g := size64.fields(math.Float64bits(y))
	fractions := big.NewInt(int64(f)).Cmp(big.NewInt(int64(g)))
	switch {
	case a < b:
		return -1
	case a > b:
		return 1
	case a == 3:
		return fractions
	case a == -4:
		return -fractions
	case a == 1 || a == -2:
		return number64(x).Cmp(number64(y))
	}
	return 0
}

// Promises 4.2 and 4.6: Order, which is an order on bits, and Same.
func TestOrder(t *testing.T) {
	l := floats64()
	for _, x := range l {
		for _, y := range l {
			if n := Order(x, y); n != wantOrder(x, y) {
				t.Fatalf("Order of %x and %x: %d", math.Float64bits(x), math.Float64bits(y), n)
			}
			if (Order(x, y) == 0) != (math.Float64bits(x) == math.Float64bits(y)) || Order(x, y) != -Order(y, x) {
				t.Fatalf("Order of %x and %x is none on bits", math.Float64bits(x), math.Float64bits(y))
			}
			if Same(x, y) != alike(x, y) {
				t.Fatalf("Same of %x and %x: %v", math.Float64bits(x), math.Float64bits(y), Same(x, y))
			}
		}
	}
	rising := slices.Clone(l)
	slices.SortFunc(rising, Order)
	for i := range rising {
		for j := range i {
			if Order(rising[j], rising[i]) > 0 {
				t.Fatalf("%x stands ahead of %x", math.Float64bits(rising[j]), math.Float64bits(rising[i]))
			}
		}
	}
}

// Promise 4.2: floats of each stretch, in the chapter's order.
func TestOrderOfStretches(t *testing.T) {
	l := []uint64{
		0xffffffffffffffff, 0xfff8000000000001, 0xfff8000000000000, 0xfff7ffffffffffff, 0xfff0000000000001, // no numbers below 0
		0xfff0000000000000, 0xffefffffffffffff, 0xbff0000000000000, 0x8010000000000000, 0x800fffffffffffff, 0x8000000000000001, 0x8000000000000000,
		0, 1, 0x000fffffffffffff, 0x0010000000000000, 0x3ff0000000000000, 0x7fefffffffffffff, 0x7ff0000000000000,
		0x7ff0000000000001, 0x7ff7ffffffffffff, 0x7ff8000000000000, 0x7ff8000000000001, 0x7fffffffffffffff,
	}
	for i, a := range l {
		for j, b := range l {
			want := big.NewInt(int64(i)).Cmp(big.NewInt(int64(j)))
			if n := Order(math.Float64frombits(a), math.Float64frombits(b)); n != want {
				t.Errorf("Order of %x and %x: %d", a, b, n)
			}
		}
	}
}

// Promise 4.2: Up and Down lead to the neighbours.
func TestNeighbours(t *testing.T) {
	nought, least, greatest, infinite := 0.0, math.Float64frombits(1), math.MaxFloat64, math.Inf(1)
	subnormal, normal := math.Float64frombits(1<<52-1), math.Float64frombits(1<<52)
	for _, c := range []struct{ x, up float64 }{
		{nought, least}, {minus(nought), least}, {least, math.Float64frombits(2)}, {minus(least), minus(nought)}, {math.Float64frombits(2), math.Float64frombits(3)},
		{subnormal, normal}, {minus(normal), minus(subnormal)}, {1, 1 + 0x1p-52}, {minus(1), -1 + 0x1p-53}, {math.Nextafter(2, 0), 2}, {-2, math.Nextafter(-2, 0)},
		{greatest, infinite}, {infinite, infinite}, {minus(infinite), minus(greatest)}, {minus(greatest), math.Nextafter(-greatest, 0)},
	} {
		if x := Up(c.x); !alike(x, c.up) {
			t.Errorf("Up(%v): %v, not %v", c.x, x, c.up)
		}
		if x := Down(minus(c.x)); !alike(x, minus(c.up)) {
			t.Errorf("Down(%v): %v, not %v", minus(c.x), x, minus(c.up))
		}
	}
	for _, x := range floats64() {
		up, down := Up(x), Down(x)
		switch {
		case isNone(x):
			if !isNone(up) || !isNone(down) {
				t.Errorf("of %x: %v, %v", math.Float64bits(x), up, down)
			}
		case !sameNumber(up, math.Nextafter(x, infinite)) || !sameNumber(down, math.Nextafter(x, -infinite)):
			t.Errorf("of %v: %v, %v", x, up, down)
		case up == 0 && !math.Signbit(up) || down == 0 && math.Signbit(down):
			t.Errorf("of %v: %v, %v", x, up, down)
		}
	}
}

// sameNumber tells whether both are one number; both noughts are.
func sameNumber(x, y float64) bool { return x == y }

// Promise 4.6: Down of Up is the same number, but of infinite.
func TestThereAndBack(t *testing.T) {
	for _, x := range numbers64() {
		if !math.IsInf(x, 1) && !sameNumber(Down(Up(x)), x) {
			t.Errorf("Down of Up of %v: %v", x, Down(Up(x)))
		}
		if !math.IsInf(x, -1) && !sameNumber(Up(Down(x)), x) {
			t.Errorf("Up of Down of %v: %v", x, Up(Down(x)))
		}
	}
}

// Promise 4.3: the lesser and the greater one.
func TestMinimum(t *testing.T) {
	l := floats64()
	for _, x := range l {
		for _, y := range l {
			low, high := Minimum(x, y), Maximum(x, y)
			if isNone(x) || isNone(y) {
				if !isNone(low) || !isNone(high) {
					t.Fatalf("of %v and %v: %v, %v", x, y, low, high)
				}
				continue
			}
			a, b := x, y
			if y < x || x == y && math.Signbit(y) {
				a, b = y, x
			}
			if !alike(low, a) || !alike(high, b) {
				t.Fatalf("of %v and %v: %v, %v", x, y, low, high)
			}
		}
	}
	if x := Minimum(0, minus(0)); !alike(x, minus(0)) {
		t.Error("Minimum(0, -0):", x)
	}
	if x := Maximum(minus(0), 0); !alike(x, 0) {
		t.Error("Maximum(-0, 0):", x)
	}
}

// Promise 4.3: the least of all.
func TestLeast(t *testing.T) {
	none, below := math.Float64frombits(0x7ff0000000000001), math.Float64frombits(0xfff8000000000001)
	for _, c := range []struct {
		l  []float64
		at int
	}{
		{[]float64{1, minus(0), 0}, 1}, {[]float64{1}, 0}, {[]float64{none}, 0}, {[]float64{2, 2, 2}, 0}, {[]float64{3, 2, 2, 2}, 1}, {[]float64{2, 2, 1, 1, 2, 1}, 2},
		{[]float64{0, minus(0), minus(0)}, 1}, {[]float64{minus(0), 0}, 0}, {[]float64{none, math.Inf(1)}, 1}, {[]float64{math.Inf(-1), below, below}, 1},
		{[]float64{below, math.Float64frombits(0xfff8000000000002)}, 1}, {[]float64{none, math.Float64frombits(0x7ff8000000000000), none}, 0}, {[]float64{5, 4, 3, 2, 1, 0, -1}, 6},
	} {
		if x, at := Least(c.l[0], c.l[1:]...); at != c.at || math.Float64bits(x) != math.Float64bits(c.l[c.at]) {
			t.Errorf("Least of %v: %v, %d, not %d", c.l, x, at, c.at)
		}
	}
	if x, at := Least(7); x != 7 || at != 0 {
		t.Error("Least(7):", x, at)
	}
	l := floats64()
	for from := range len(l) {
		some := append(slices.Clone(l[from:]), l[:from]...)
		want := 0
		for i, x := range some {
			if wantOrder(x, some[want]) < 0 {
				want = i
			}
		}
		if x, at := Least(some[0], some[1:]...); at != want || math.Float64bits(x) != math.Float64bits(some[want]) {
			t.Fatalf("Least from %d on: %v, %d, not %d", from, x, at, want)
		}
	}
}

// R4: what is handed to Least stays as it was, the room behind it, too.
func TestLeastLeavesTheList(t *testing.T) {
	l := []float64{5, minus(0), math.Float64frombits(0xfff0000000000001), 3, minus(0), -7, -7}
	kept := slices.Clone(l)
	Least(1, l[:4]...)
	Least(-9, l[:0]...)
	Least(1, l...)
	for i := range l {
		if math.Float64bits(l[i]) != math.Float64bits(kept[i]) {
			t.Errorf("at %d stands %v, not %v", i, l[i], kept[i])
		}
	}
}

// R1: a long list.
func TestLeastOfMany(t *testing.T) {
	l := make([]float64, 1<<20)
	for i := range l {
		l[i] = float64(len(l) - i)
	}
	if x, at := Least(math.Inf(1), l...); x != 1 || at != len(l) {
		t.Error(x, at)
	}
}

// wantSteps is how far apart the floats' bits are on both sides of the noughts.
func wantSteps(x, y float64) uint64 {
	place := func(x float64) *big.Int {
		neg, e, f := size64.fields(math.Float64bits(x))
		n := new(big.Int).SetUint64(size64.made(false, e, f))
		if neg {
			return n.Neg(n)
		}
		return n
	}
	n := new(big.Int).Sub(place(x), place(y))
	return n.Abs(n).Uint64()
}

// Promise 4.5: Steps.
func TestSteps(t *testing.T) {
	l := floats64()
	for _, x := range l {
		for _, y := range l {
			n, ok := Steps(x, y)
			if isNone(x) || isNone(y) {
				if n != 0 || ok {
					t.Fatalf("Steps(%v, %v): %d, %v", x, y, n, ok)
				}
			} else if n != wantSteps(x, y) || !ok {
				t.Fatalf("Steps(%v, %v): %d, %v, not %d", x, y, n, ok, wantSteps(x, y))
			}
		}
	}
	for _, c := range []struct {
		x, y float64
		want uint64
	}{
		{minus(0), 0, 0}, {0, 0, 0}, {1, 1, 0}, {1, 2, 4503599627370496}, {minus(0), 5e-324, 1}, {0, 5e-324, 1}, {-5e-324, 5e-324, 2}, {-5e-324, 0, 1}, {-5e-324, minus(0), 1},
		{0, math.Inf(1), 9218868437227405312}, {math.Inf(-1), math.Inf(1), 18437736874454810624}, {math.MaxFloat64, math.Inf(1), 1}, {math.Inf(1), math.Inf(1), 0},
	} {
		for _, pair := range [][2]float64{{c.x, c.y}, {c.y, c.x}} {
			if n, ok := Steps(pair[0], pair[1]); n != c.want || !ok {
				t.Errorf("Steps(%v, %v): %d, %v, not %d", pair[0], pair[1], n, ok, c.want)
			}
		}
	}
}

// Promise 4.5: so many times Up leads there.
func TestStepsAreTaken(t *testing.T) {
	for _, x := range numbers64() {
		y := x
		for n := range uint64(5) {
			if got, ok := Steps(x, y); got != n || !ok {
				t.Errorf("Steps(%v, %v): %d, %v, not %d", x, y, got, ok, n)
			}
			if math.IsInf(y, 1) {
				break
			}
			y = Up(y)
		}
	}
}
