package real

import (
	"math"
	"math/big"
	"slices"

	"postern/api"
)

// size is a size of floats in the chapter's words: the fraction's bits, the greatest e, the bias.
type size struct{ p, greatest, bias int }

var (
	size64    = size{52, 2047, 1023}
	size32    = size{23, 255, 127}
	sizeHalf  = size{10, 31, 15}
	sizeBrain = size{7, 255, 127}
)

// exact is room for every number that the tests reckon with, roots squared and halves of sums among them.
const exact = 4000

func pow(n int) uint64 { return uint64(math.Pow(2, float64(n))) }

// fields is the sign, e and f of a float, by dividing.
func (s size) fields(b uint64) (neg bool, e int, f uint64) {
	f = b % pow(s.p)
	b /= pow(s.p)
	e = int(b % uint64(s.greatest+1))
	return b/uint64(s.greatest+1) == 1, e, f
}

// made is the bits of a sign, e and f.
func (s size) made(neg bool, e int, f uint64) uint64 {
	b := uint64(e)*pow(s.p) + f
	if neg {
		b += s.signBit()
	}
	return b
}

func (s size) signBit() uint64 { return uint64(s.greatest+1) * pow(s.p) }

func (s size) infinite() uint64 { return uint64(s.greatest) * pow(s.p) }

// wantParts goes by the chapter's list of kinds.
func (s size) wantParts(b uint64) api.Float {
	neg, e, f := s.fields(b)
	switch {
	case e == 0 && f == 0:
		return api.Float{Kind: 0, Neg: neg}
	case e == 0:
		return api.Float{Kind: 1, Neg: neg, Mant: f, Exp: 1 - s.bias - s.p}
	case e < s.greatest:
		return api.Float{Kind: 2, Neg: neg, Mant: pow(s.p) + f, Exp: e - s.bias - s.p}
	case f == 0:
		return api.Float{Kind: 3, Neg: neg}
	}
	return api.Float{Kind: 4, Neg: neg, Quiet: f >= pow(s.p-1), Load: f % pow(s.p-1)}
}

// whole is mant * 2^exp as it is.
func whole(mant uint64, exp int) *big.Float {
	m := new(big.Float).SetPrec(exact).SetUint64(mant)
	return m.SetMantExp(m, exp)
}

// sizeOfBits is the number that a float without a sign is; the infinite one counts as the next power of two.
func (s size) sizeOfBits(b uint64) *big.Float {
	if b == s.infinite() {
		return whole(1, s.greatest-s.bias)
	}
	p := s.wantParts(b)
	return whole(p.Mant, p.Exp)
}

// wantNearest is the float nearest to a number above or at 0, told by how another number stands to it, and found by halving what may be.
func (s size) wantNearest(stands func(v *big.Float) int) uint64 {
	low, high := uint64(0), s.infinite()
	if stands(s.sizeOfBits(high)) <= 0 {
		return high
	}
	for high-low > 1 {
		middle := low + (high-low)/2
		if stands(s.sizeOfBits(middle)) <= 0 {
			low = middle
		} else {
			high = middle
		}
	}
	sum := new(big.Float).SetPrec(exact).Add(s.sizeOfBits(low), s.sizeOfBits(high))
	switch c := stands(sum.Quo(sum, big.NewFloat(2))); {
	case c < 0:
		return high
	case c == 0 && low%2 == 1:
		return high
	}
	return low
}

// wantRounded is the bits of a number, rounded; neg is the sign of a number that is 0, too.
func (s size) wantRounded(number *big.Float, neg bool) uint64 {
	n := new(big.Float).SetPrec(exact).Abs(number)
	b := s.wantNearest(func(v *big.Float) int { return v.Cmp(n) })
	if neg {
		b += s.signBit()
	}
	return b
}

// wantOf is the bits of a float of 64 bits, rounded to this size; none is what is answered of no numbers.
func (s size) wantOf(x float64, none uint64) uint64 {
	p := size64.wantParts(math.Float64bits(x))
	switch p.Kind {
	case 4:
		return none
	case 3:
		return s.made(p.Neg, s.greatest, 0)
	}
	return s.wantRounded(whole(p.Mant, p.Exp), p.Neg)
}

// number64 is the number that a finite float is, with its sign.
func number64(x float64) *big.Float { return new(big.Float).SetPrec(exact).SetFloat64(x) }

// inLeast is a finite float as so many of the least one.
func inLeast(x float64) *big.Int {
	n, accuracy := new(big.Float).SetMantExp(number64(x), 1074).Int(nil)
	if accuracy != big.Exact {
		panic("not exact")
	}
	return n
}

// isNone tells no numbers by their fields.
func isNone(x float64) bool {
	_, e, f := size64.fields(math.Float64bits(x))
	return e == 2047 && f != 0
}

// alike tells whether both have the same bits, or both are no numbers.
func alike(x, y float64) bool {
	return isNone(x) && isNone(y) || math.Float64bits(x) == math.Float64bits(y)
}

// minus is a float with the other sign bit.
func minus(x float64) float64 {
	neg, e, f := size64.fields(math.Float64bits(x))
	return math.Float64frombits(size64.made(!neg, e, f))
}

// bitsAtEdges are the floats of a size that the chapter names, with those beside them, of both signs: noughts, the least and the greatest subnormal, the least and the greatest normal, infinite ones, no numbers of all kinds.
func (s size) bitsAtEdges() []uint64 {
	top := pow(s.p)
	var l []uint64
	for _, neg := range []bool{false, true} {
		for _, f := range []uint64{0, 1, 2, 3, top/2 - 1, top / 2, top/2 + 1, top - 2, top - 1} {
			for _, e := range []int{0, 1, 2, s.bias - 1, s.bias, s.bias + 1, s.greatest - 2, s.greatest - 1, s.greatest} {
				l = append(l, s.made(neg, e, f%top))
			}
		}
	}
	slices.Sort(l)
	return slices.Compact(l)
}

// floats64 are floats of all kinds: those at the edges, those about where whole numbers and int64s end, halfway cases of other sizes, and some more of all exponents.
func floats64() []float64 {
	var l []float64
	for _, b := range size64.bitsAtEdges() {
		l = append(l, math.Float64frombits(b))
	}
	for _, x := range []float64{0.25, 0.4, 0.5, 0.6, 1.5, 2.5, 3, 3.5, 5, 6, 7, 10, 0.1, 1e22, 1e100, 1e-100, 16777217, 65519.99, 65520, 1 << 31, 1 << 32, 1 << 51, 1 << 52, 1<<52 + 1,
		1<<52 - 0.5, 1<<51 + 0.5, 1<<51 - 0.25, 1<<51 + 0.75, 1 << 53, 1<<53 - 1, 1 << 54, 1 << 62, 1 << 63, 1 << 64, 3.4028235677973366e38, math.MaxFloat32, 1e-46, 0x1p-149, 0x1p-150, 0x1p-126, 0x1p-24, 0x1p-25, 0x1p-14} {
		for _, y := range []float64{math.Nextafter(x, 0), x, math.Nextafter(x, math.Inf(1))} {
			l = append(l, y, -y)
		}
	}
	some := source(1)
	for range 300 {
		l = append(l, some.float())
	}
	return l
}

// numbers64 are those of them that are numbers.
func numbers64() []float64 { return slices.DeleteFunc(floats64(), isNone) }

// source makes numbers that look like chance, the same ones each time.
type source uint64

func (s *source) bits() uint64 {
	*s += 0x9e3779b97f4a7c15
	z := uint64(*s)
	z = (z ^ z>>30) * 0xbf58476d1ce4e5b9
	z = (z ^ z>>27) * 0x94d049bb133111eb
	return z ^ z>>31
}

// float is a float with any bits, but more often than not with few ones in its fraction, so that halfway cases come.
func (s *source) float() float64 {
	b := s.bits()
	if n := s.bits() % 64; n < 52 {
		b = b >> n << n
	}
	return math.Float64frombits(b)
}

// near is a float whose exponent is near 1's.
func (s *source) near(reach int) float64 {
	x := s.bits()
	return math.Float64frombits(size64.made(x>>63 == 1, 1023-reach+int(s.bits()%uint64(2*reach+1)), x%pow(52)))
}
