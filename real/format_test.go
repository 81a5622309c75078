package real

import (
	"math"
	"math/big"
	"testing"

	"postern/api"
)

// Promise 4.9: every half and every brain; and 4.10: there and back.
func TestEveryShortFloat(t *testing.T) {
	checkEvery(t, sizeHalf, FromHalf, Half)
	checkEvery(t, sizeBrain, FromBrain, Brain)
}

func checkEvery(t *testing.T, s size, from func(uint16) float64, to func(float64) uint16) {
	t.Helper()
	for h := range 1 << 16 {
		x, f := from(uint16(h)), s.wantParts(uint64(h))
		switch {
		case f.Kind == 4:
			if !isNone(x) {
				t.Fatalf("%x is %v", h, x)
			}
			continue
		case math.Signbit(x) != f.Neg, math.IsInf(x, 0) != (f.Kind == 3), isNone(x):
			t.Fatalf("%x is %v", h, x)
		case f.Kind != 3 && new(big.Float).Abs(number64(x)).Cmp(whole(f.Mant, f.Exp)) != 0:
			t.Fatalf("%x is %v", h, x)
		}
		if to(x) != uint16(h) {
			t.Fatalf("%x comes back as %x", h, to(x))
		}
	}
}

// Promise 4.9: between all halves and all brains, at what is halfway and beside it.
func TestBetweenShortFloats(t *testing.T) {
	checkBetween(t, sizeHalf, Half)
	checkBetween(t, sizeBrain, Brain)
}

func checkBetween(t *testing.T, s size, to func(float64) uint16) {
	t.Helper()
	for b := range s.infinite() {
		low, _ := s.sizeOfBits(b).Float64()
		high, _ := s.sizeOfBits(b + 1).Float64()
		middle, even := (low+high)/2, b+b%2
		for _, c := range []struct {
			x    float64
			want uint64
		}{{low, b}, {math.Nextafter(low, high), b}, {math.Nextafter(middle, low), b}, {middle, even}, {math.Nextafter(middle, high), b + 1}, {math.Nextafter(high, low), b + 1}} {
			if h := to(c.x); uint64(h) != c.want {
				t.Fatalf("%v comes to %x, not %x", c.x, h, c.want)
			}
			if h := to(-c.x); uint64(h) != c.want+s.signBit() {
				t.Fatalf("%v comes to %x, not %x", -c.x, h, c.want+s.signBit())
			}
		}
	}
}

// Promise 4.9: floats of all kinds as halves and brains.
func TestShortFloats(t *testing.T) {
	for _, x := range floats64() {
		if h := Half(x); uint64(h) != sizeHalf.wantOf(x, 32256) {
			t.Errorf("Half(%v): %x", x, h)
		}
		if h := Brain(x); uint64(h) != sizeBrain.wantOf(x, 32704) {
			t.Errorf("Brain(%v): %x", x, h)
		}
	}
	for _, c := range []struct {
		x    float64
		half uint16
	}{{65520, 31744}, {65519.99, 31743}, {65504, 31743}, {-65520, 64512}, {0x1p-24, 1}, {0x1p-25, 0}, {-0x1p-25, 32768}, {0x3p-25, 2}, {0x1p-14, 1024}, {0x1p-14 - 0x1p-25, 1024}, {1, 15360}, {math.NaN(), 32256}, {minus(math.NaN()), 32256}} {
		if h := Half(c.x); h != c.half {
			t.Errorf("Half(%v): %d, not %d", c.x, h, c.half)
		}
	}
	for _, c := range []struct {
		x     float64
		brain uint16
	}{{1.00390625, 16256}, {1.01171875, 16258}, {1, 16256}, {math.MaxFloat64, 32640}, {0x1p-133, 1}, {0x1p-134, 0}, {0x3p-134, 2}, {0x1.ffp127, 32640}, {0x1.feffp127, 32639}, {math.NaN(), 32704}, {minus(math.NaN()), 32704}, {math.Inf(-1), 65408}} {
		if h := Brain(c.x); h != c.brain {
			t.Errorf("Brain(%v): %d, not %d", c.x, h, c.brain)
		}
	}
	if x := FromHalf(1); x != 0x1p-24 {
		t.Error("FromHalf(1):", x)
	}
}

// Promise 4.9: Bits, for every p.
func TestBits(t *testing.T) {
	l := floats64()
	for p := 2; p <= 53; p++ {
		s := size{p - 1, 2047, 1023}
		some := append([]float64{}, l[:170]...)
		for i := 170 + p%4; i < len(l); i += 4 {
			some = append(some, l[i])
		}
		if p < 53 {
			some = append(some, halfways(s)...)
		}
		for _, x := range some {
			y, e := Bits(x, p)
			if e != api.OK {
				t.Fatalf("Bits(%v, %d): %d", x, p, e)
			}
			want := math.NaN()
			if !isNone(x) {
				// The same fields with more bits of the fraction are the same number.
				neg, exp, f := s.fields(s.wantOf(x, 0))
				want = math.Float64frombits(size64.made(neg, exp, f*pow(53-p)))
			}
			if !alike(y, want) {
				t.Fatalf("Bits(%v, %d): %v, not %v", x, p, y, want)
			}
		}
	}
}

// Promise 4.9: p that may not be, and the chapter's example.
func TestBitsEdges(t *testing.T) {
	for _, p := range []int{1, 0, -1, 54, 55, 64, 1 << 32, 1<<32 + 2, math.MaxInt, math.MinInt} {
		for _, x := range []float64{1, 0, minus(0), math.Inf(1), math.NaN(), 0.1} {
			if y, e := Bits(x, p); math.Float64bits(y) != 0 || e != api.ErrArg {
				t.Errorf("Bits(%v, %d): %v, %d", x, p, y, e)
			}
		}
	}
	for _, c := range []struct {
		x    float64
		p    int
		want float64
	}{
		{0.1, 3, 0.09375}, {0.1, 53, 0.1}, {1.25, 2, 1}, {1.75, 2, 2}, {1.5, 2, 1.5}, {5, 2, 4}, {7, 2, 8}, {-7, 2, -8}, {math.MaxFloat64, 52, math.Inf(1)}, {math.MaxFloat64, 2, math.Inf(1)}, {0x1.8p1023, 2, 0x1.8p1023}, {math.Nextafter(0x1.cp1023, 0), 2, 0x1.8p1023}, {0x1.cp1023, 2, math.Inf(1)},
		{5e-324, 53, 5e-324}, {5e-324, 52, 0}, {-5e-324, 52, minus(0)}, {1.5e-323, 52, 2e-323}, {0x1p-1022, 2, 0x1p-1022}, {0x1p-1023, 2, 0x1p-1023}, {0x1p-1024, 2, 0}, {0x3p-1024, 2, 0x1p-1022}, {math.Nextafter(0x1p-1024, 1), 2, 0x1p-1023}, {minus(0), 2, minus(0)}, {math.Inf(-1), 2, math.Inf(-1)},
	} {
		if y, e := Bits(c.x, c.p); !alike(y, c.want) || e != api.OK {
			t.Errorf("Bits(%v, %d): %v, %d, not %v", c.x, c.p, y, e, c.want)
		}
	}
}

// Promise 4.10: Bits(x, 53) is x.
func TestBitsOfAll(t *testing.T) {
	some := source(9)
	for _, x := range floats64() {
		if y, e := Bits(x, 53); !alike(y, x) || e != api.OK {
			t.Errorf("Bits(%v, 53): %v, %d", x, y, e)
		}
	}
	for range 10000 {
		x := some.float()
		if y, e := Bits(x, 53); !alike(y, x) || e != api.OK {
			t.Errorf("Bits(%v, 53): %v, %d", x, y, e)
		}
	}
}
