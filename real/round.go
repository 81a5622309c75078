package real

import (
	"math"

	"postern/api"
)

// farthest is an exponent that brings, on its side, every float and every whole number of 64 bits past the ends: to nought or to infinite.
const farthest = 4096

// Narrow is x rounded to 32 bits.
func Narrow(x float64) float32 { return math.Float32frombits(uint32(single().rounded(Parts(x)))) }

// Widen is the same number as x.
func Widen(x float32) float64 { return number(Parts32(x)) }

// Scale is x times 2^n, rounded once.
func Scale(x float64, n int) float64 {
	p := Parts(x)
	p.Exp += withinReach(n)
	return number(p)
}

// Near is mant * 2^exp, rounded.
func Near(mant int64, exp int) float64 {
	return number(api.Float{Neg: mant < 0, Mant: sizeOf(mant), Exp: withinReach(exp)})
}

// Even is the whole number nearest to x, of two equally near the even one.
func Even(x float64) float64 {
	p := Parts(x)
	if p.Exp >= 0 {
		return x
	}
	p.Mant, p.Exp = inUnits(p.Mant, -p.Exp), 0
	return number(p)
}

// Modf is x without what stands behind the point, and that rest.
func Modf(x float64) (float64, float64) {
	p := Parts(x)
	if p.Kind == api.FloatNone {
		return x, x
	}
	rest := p
	rest.Kind, rest.Mant = api.FloatNought, 0
	if p.Exp < 0 {
		whole := p.Mant >> -p.Exp << -p.Exp
		rest.Mant = p.Mant - whole
		p.Mant = whole
	}
	return number(p), number(rest)
}

// Whole is x as an int64, if it is just one.
func Whole(x float64) (int64, bool) {
	if Even(x) != x || x < -1<<63 || x >= 1<<63 {
		return 0, false
	}
	return int64(x), true
}

// withinReach is an exponent, or the farthest one on its side, beyond which nothing changes any more; it can be added to another.
func withinReach(exp int) int { return min(max(exp, -farthest), farthest) }

// sizeOf is a whole number without its sign, which the least one, too, has as a uint64.
func sizeOf(n int64) uint64 {
	if n < 0 {
		return -uint64(n)
	}
	return uint64(n)
}
