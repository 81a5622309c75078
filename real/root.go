package real

import (
	"math/bits"

	"postern/api"
)

const (
	// rootDigits is how many binary digits of a root are reckoned: those that a float of 64 bits keeps and two behind them, by which they are rounded.
	rootDigits = 55
	// rootWhole is how many of them stand ahead of the point: one for each two bits of the number.
	rootWhole = 32
)

// Sqrt is the root, rounded.
func Sqrt(x float64) float64 {
	p := Parts(x)
	switch {
	case p.Kind == api.FloatNought:
		return x
	case p.Kind == api.FloatNone || p.Neg:
		return none()
	case p.Kind == api.FloatInfinite:
		return x
	}
	// The exponent has to be even to be halved; with a 1 among the highest two bits the root's first digit is a 1, too, and none is wasted.
	shift := bits.LeadingZeros64(p.Mant)
	shift -= (p.Exp - shift) & 1
	root := rootOf(p.Mant << shift)
	return number(api.Float{Mant: root, Exp: (p.Exp-shift)/2 + rootWhole - rootDigits})
}

// rootOf is the digits of a number's root, found one for each two bits of the number; the last one is 1, too, if more would follow.
func rootOf(n uint64) uint64 {
	root, rest := uint64(0), uint64(0)
	for range rootDigits {
		rest = rest<<2 | n>>62
		n <<= 2
		root <<= 1
		if more := root<<1 | 1; rest >= more {
			rest -= more
			root |= 1
		}
	}
	if rest != 0 {
		root |= 1
	}
	return root
}
