package real

import (
	"math"
	"testing"

	"postern/api"
)

// Promise 4.1, and 4.6: Of of Parts is the same bits.
func TestParts(t *testing.T) {
	for _, x := range floats64() {
		b := math.Float64bits(x)
		f := Parts(x)
		if f != size64.wantParts(b) {
			t.Errorf("Parts of %x: %v, not %v", b, f, size64.wantParts(b))
		}
		if y, e := Of(f); math.Float64bits(y) != b || e != api.OK {
			t.Errorf("Of %v: %x, %d, not %x", f, math.Float64bits(y), e, b)
		}
	}
	some := source(2)
	for range 100000 {
		b := some.bits()
		f := Parts(math.Float64frombits(b))
		if y, e := Of(f); f != size64.wantParts(b) || math.Float64bits(y) != b || e != api.OK {
			t.Errorf("%x: %v, %x, %d", b, f, math.Float64bits(y), e)
		}
	}
}

// Promises 4.1 and 4.6.
func TestParts32(t *testing.T) {
	check := func(b uint64) {
		f := Parts32(math.Float32frombits(uint32(b)))
		if f != size32.wantParts(b) {
			t.Errorf("Parts32 of %x: %v, not %v", b, f, size32.wantParts(b))
		}
		if y, e := Of32(f); uint64(math.Float32bits(y)) != b || e != api.OK {
			t.Errorf("Of32 %v: %x, %d, not %x", f, math.Float32bits(y), e, b)
		}
	}
	for _, b := range size32.bitsAtEdges() {
		check(b)
	}
	for b := uint64(0); b < 1<<32; b += 40009 {
		check(b)
	}
}

// Promise 4.1: the chapter's examples.
func TestPartsExamples(t *testing.T) {
	for _, c := range []struct {
		x    float64
		want api.Float
	}{
		{1.5, api.Float{Kind: api.FloatNormal, Mant: 6755399441055744, Exp: -52}},
		{math.Copysign(0, -1), api.Float{Kind: api.FloatNought, Neg: true}},
		{0, api.Float{}},
		{math.SmallestNonzeroFloat64, api.Float{Kind: api.FloatSubnormal, Mant: 1, Exp: -1074}},
		{-0x1p-1022, api.Float{Kind: api.FloatNormal, Neg: true, Mant: 1 << 52, Exp: -1074}},
		{math.MaxFloat64, api.Float{Kind: api.FloatNormal, Mant: 1<<53 - 1, Exp: 971}},
		{math.Inf(-1), api.Float{Kind: api.FloatInfinite, Neg: true}},
		{math.Float64frombits(0x7ff0000000000001), api.Float{Kind: api.FloatNone, Load: 1}},
		{math.Float64frombits(0xfff8000000000003), api.Float{Kind: api.FloatNone, Neg: true, Quiet: true, Load: 3}},
	} {
		if f := Parts(c.x); f != c.want {
			t.Errorf("Parts(%v): %v, not %v", c.x, f, c.want)
		}
	}
	if f := Parts32(1); f != (api.Float{Kind: api.FloatNormal, Mant: 8388608, Exp: -23}) {
		t.Error("Parts32(1):", f)
	}
	if f := Parts32(math.SmallestNonzeroFloat32); f != (api.Float{Kind: api.FloatSubnormal, Mant: 1, Exp: -149}) {
		t.Error("Parts32 of the least one:", f)
	}
}

// partsOfNone are parts that no float of a size has.
func partsOfNone(s size) []api.Float {
	one, lowest, highest := pow(s.p), 1-s.bias-s.p, s.greatest-1-s.bias-s.p
	l := []api.Float{
		{Kind: -1}, {Kind: 5}, {Kind: math.MaxInt}, {Kind: math.MinInt},
		{Kind: 0, Mant: 1}, {Kind: 0, Exp: 1}, {Kind: 0, Exp: lowest}, {Kind: 0, Quiet: true}, {Kind: 0, Load: 1}, {Kind: 0, Mant: math.MaxUint64},
		{Kind: 1}, {Kind: 1, Exp: lowest}, {Kind: 1, Mant: 1}, {Kind: 1, Mant: one, Exp: lowest}, {Kind: 1, Mant: 1, Exp: lowest + 1}, {Kind: 1, Mant: 1, Exp: lowest - 1},
		{Kind: 1, Mant: math.MaxUint64, Exp: lowest}, {Kind: 1, Mant: 1 << 63, Exp: lowest}, {Kind: 1, Mant: s.signBit(), Exp: lowest}, {Kind: 1, Mant: s.signBit() + 1, Exp: lowest},
		{Kind: 1, Mant: 1, Exp: lowest, Quiet: true}, {Kind: 1, Mant: 1, Exp: lowest, Load: 1}, {Kind: 1, Mant: 1, Exp: math.MinInt}, {Kind: 1, Mant: 1, Exp: math.MaxInt},
		{Kind: 2}, {Kind: 2, Mant: 1}, {Kind: 2, Mant: one - 1, Exp: lowest}, {Kind: 2, Mant: 2 * one}, {Kind: 2, Mant: 2 * one, Exp: lowest}, {Kind: 2, Mant: math.MaxUint64, Exp: highest},
		{Kind: 2, Mant: one, Exp: lowest - 1}, {Kind: 2, Mant: one, Exp: highest + 1}, {Kind: 2, Mant: 2*one - 1, Exp: highest + 1}, {Kind: 2, Mant: 0, Exp: lowest + 1},
		{Kind: 2, Mant: one, Exp: math.MaxInt}, {Kind: 2, Mant: one, Exp: math.MinInt}, {Kind: 2, Mant: one, Exp: lowest + s.greatest + 1}, {Kind: 2, Mant: one, Exp: lowest - s.greatest - 1},
		{Kind: 2, Mant: one, Exp: lowest + 1<<12}, {Kind: 2, Mant: one, Exp: lowest - 1<<12}, {Kind: 2, Mant: one, Quiet: true}, {Kind: 2, Mant: one, Load: 1}, {Kind: 2, Mant: one + s.signBit()},
		{Kind: 3, Mant: 1}, {Kind: 3, Mant: one}, {Kind: 3, Exp: 1}, {Kind: 3, Exp: highest + 1}, {Kind: 3, Quiet: true}, {Kind: 3, Load: 1},
		{Kind: 4}, {Kind: 4, Load: one / 2}, {Kind: 4, Quiet: true, Load: one / 2}, {Kind: 4, Quiet: true, Load: one}, {Kind: 4, Load: one}, {Kind: 4, Load: math.MaxUint64}, {Kind: 4, Quiet: true, Load: s.signBit()},
		{Kind: 4, Quiet: true, Mant: 1}, {Kind: 4, Quiet: true, Exp: 1}, {Kind: 4, Load: 1, Mant: one}, {Kind: 4, Load: 1, Exp: highest + 1}, {Kind: 4, Load: one/2 + 1}, {Kind: 4, Load: s.signBit() + 1},
	}
	for _, f := range l {
		f.Neg = true
		l = append(l, f)
	}
	return l
}

// Promise 4.1: parts of no float are refused.
func TestPartsOfNoFloat(t *testing.T) {
	for _, f := range partsOfNone(size64) {
		if x, e := Of(f); math.Float64bits(x) != 0 || e != api.ErrReal {
			t.Errorf("Of %v: %v, %d", f, x, e)
		}
	}
	for _, f := range partsOfNone(size32) {
		if x, e := Of32(f); math.Float32bits(x) != 0 || e != api.ErrReal {
			t.Errorf("Of32 %v: %v, %d", f, x, e)
		}
	}
}

// Promise 4.1: of all parts about those of floats just those are taken that some float has.
func TestPartsAbout(t *testing.T) {
	for _, b := range size64.bitsAtEdges() {
		for _, f := range about(size64.wantParts(b)) {
			x, e := Of(f)
			if e == api.OK && size64.wantParts(math.Float64bits(x)) != f || e != api.OK && (e != api.ErrReal || math.Float64bits(x) != 0) {
				t.Errorf("Of %v: %v, %d", f, x, e)
			}
		}
	}
	for _, b := range size32.bitsAtEdges() {
		for _, f := range about(size32.wantParts(b)) {
			x, e := Of32(f)
			if e == api.OK && size32.wantParts(uint64(math.Float32bits(x))) != f || e != api.OK && (e != api.ErrReal || math.Float32bits(x) != 0) {
				t.Errorf("Of32 %v: %v, %d", f, x, e)
			}
		}
	}
}

// about is parts that differ in one part by a little.
func about(f api.Float) []api.Float {
	l := []api.Float{}
	for _, n := range []int{-1, 1, 2048, -2048, 256, -256} {
		kind, mant, exp, load := f, f, f, f
		kind.Kind += n
		mant.Mant += uint64(n)
		exp.Exp += n
		load.Load += uint64(n)
		l = append(l, kind, mant, exp, load)
	}
	neg, quiet := f, f
	neg.Neg = !f.Neg
	quiet.Quiet = !f.Quiet
	return append(l, neg, quiet)
}

// Promise 4.8: Power.
func TestPower(t *testing.T) {
	for _, x := range floats64() {
		n, ok := Power(x)
		f := size64.wantParts(math.Float64bits(x))
		if f.Mant == 0 {
			if n != 0 || ok {
				t.Errorf("Power(%v): %d, %v", x, n, ok)
			}
			continue
		}
		size := whole(f.Mant, f.Exp)
		if !ok || whole(1, n).Cmp(size) > 0 || whole(1, n+1).Cmp(size) <= 0 {
			t.Errorf("Power(%v): %d, %v", x, n, ok)
		}
	}
	for _, c := range []struct {
		x    float64
		want int
	}{{0.75, -1}, {1, 0}, {-1, 0}, {2, 1}, {math.Nextafter(2, 0), 0}, {5e-324, -1074}, {1e-323, -1073}, {1.5e-323, -1073}, {0x1p-1022, -1022}, {math.MaxFloat64, 1023}} {
		if n, ok := Power(c.x); n != c.want || !ok {
			t.Errorf("Power(%v): %d, %v, not %d", c.x, n, ok, c.want)
		}
	}
}

// Promise 4.8: Sign.
func TestSign(t *testing.T) {
	l := floats64()
	for _, x := range l {
		_, e, f := size64.fields(math.Float64bits(x))
		for _, y := range l {
			neg, _, _ := size64.fields(math.Float64bits(y))
			want := math.Float64frombits(size64.made(neg, e, f))
			if z := Sign(x, y); !alike(z, want) {
				t.Fatalf("Sign(%v, %v): %v, not %v", x, y, z, want)
			}
		}
	}
}
