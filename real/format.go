package real

import (
	"math"

	"postern/api"
)

// Half is the bits of x rounded to a half.
func Half(x float64) uint16 { return uint16(half().rounded(Parts(x))) }

// FromHalf is the number that a half is.
func FromHalf(h uint16) float64 { return number(half().parts(uint64(h))) }

// Brain is the bits of x rounded to a brain.
func Brain(x float64) uint16 { return uint16(brain().rounded(Parts(x))) }

// FromBrain is the number that a brain is.
func FromBrain(h uint16) float64 { return number(brain().parts(uint64(h))) }

// Bits is x rounded to p bits, with the exponent of 64 bits.
func Bits(x float64, p int) (float64, api.Errno) {
	if p < 2 || p > 53 {
		return 0, api.ErrArg
	}
	// The exponent is the same, so that the fraction's lower bits are all that is lacking, below normal, too.
	return math.Float64frombits(short(p-1).rounded(Parts(x)) << (53 - p)), api.OK
}
