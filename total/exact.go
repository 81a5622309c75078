package total

import (
	"cmp"
	"math"
	"math/bits"

	"postern/api"
	"postern/real"
)

const (
	// lowest is the power of two of which every product of two floats is a whole multiple.
	lowest = -2148
	// words is how many words hold a sum: twice MaxSum of the greatest products stay below 2^4213 times that power, and the sign bit stands above them.
	words = 66
	// wordBits is how many bits a word has.
	wordBits = 64
	// mantBits is how many bits of a sum are rounded: as many as an int64 has beside its sign, with many to spare behind those that a float keeps.
	mantBits = 63
)

// exact is the exact sum of products: a whole number in two's complement, the lowest word first, and beside it what no whole number tells. Without a value it is the sum of none.
type exact struct {
	whole        [words]uint64
	none         bool // a product that is none
	above, below bool // infinite products of either sign
	minus, other bool // a product that is -0, and one that is not
}

// Exact is the exact sum, rounded once.
func Exact(l ...float64) (float64, api.Errno) {
	if len(l) > api.MaxSum {
		return 0, api.ErrTerms
	}
	var sum exact
	for _, x := range l {
		sum.add(x, 1)
	}
	return sum.rounded(), api.OK
}

// ExactDot is the exact sum of products, rounded once.
func ExactDot(a, b []float64) (float64, api.Errno) {
	if e := paired(a, b); e != api.OK {
		return 0, e
	}
	var sum exact
	for i, x := range a {
		sum.add(x, b[i])
	}
	return sum.rounded(), api.OK
}

// Compare tells which exact sum is less.
func Compare(a, b []float64) (int, bool, api.Errno) {
	if max(len(a), len(b)) > api.MaxSum {
		return 0, false, api.ErrTerms
	}
	var sum exact
	for _, x := range a {
		sum.add(x, 1)
	}
	for _, x := range b {
		sum.add(x, -1)
	}
	if sum.none || sum.above || sum.below {
		return 0, false, api.OK
	}
	// A sum of floats is a whole multiple of the least one, so that none but 0 is rounded to it.
	return cmp.Compare(sum.rounded(), 0), true, api.OK
}

// add adds the product of x and y.
func (s *exact) add(x, y float64) {
	p, q := real.Parts(x), real.Parts(y)
	neg := p.Neg != q.Neg
	nought := p.Kind == api.FloatNought || q.Kind == api.FloatNought
	infinite := p.Kind == api.FloatInfinite || q.Kind == api.FloatInfinite
	switch {
	case p.Kind == api.FloatNone || q.Kind == api.FloatNone || infinite && nought:
		s.none = true
	case infinite && neg:
		s.below = true
	case infinite:
		s.above = true
	case !nought:
		high, low := bits.Mul64(p.Mant, q.Mant)
		s.put(high, low, p.Exp+q.Exp-lowest, neg)
	}
	if nought && neg {
		s.minus = true
	} else {
		s.other = true
	}
}

// put adds a number of two words whose lowest bit stands at a place, or takes it away.
func (s *exact) put(high, low uint64, at int, neg bool) {
	shift, from := at%wordBits, at/wordBits
	pieces := [3]uint64{low << shift, high<<shift | low>>(wordBits-shift), high >> (wordBits - shift)}
	carry := uint64(0)
	for i, piece := range pieces {
		s.whole[from+i], carry = changed(s.whole[from+i], piece, carry, neg)
	}
	for i := from + len(pieces); i < words && carry != 0; i++ {
		s.whole[i], carry = changed(s.whole[i], 0, carry, neg)
	}
}

// changed is a word with a piece and a carry added, or taken away, and what is carried on.
func changed(word, piece, carry uint64, neg bool) (uint64, uint64) {
	if neg {
		return bits.Sub64(word, piece, carry)
	}
	return bits.Add64(word, piece, carry)
}

// rounded is the sum as a float.
func (s *exact) rounded() float64 {
	switch {
	case s.none || s.above && s.below:
		return math.NaN()
	case s.above:
		return math.Inf(1)
	case s.below:
		return math.Inf(-1)
	case s.minus && !s.other:
		return math.Copysign(0, -1)
	}
	whole, neg := s.sized()
	from := max(length(whole)-mantBits, 0)
	mant := int64(wordAt(whole, from))
	// What stands lower can't tip the rounding but by not being 0, which the last bit of many says as well.
	if anyBelow(whole, from) {
		mant |= 1
	}
	if neg {
		mant = -mant
	}
	return real.Near(mant, lowest+from)
}

// sized is the whole number without its sign, and whether it is below 0.
func (s *exact) sized() ([words]uint64, bool) {
	whole := s.whole
	neg := whole[words-1]>>(wordBits-1) == 1
	if neg {
		carry := uint64(1)
		for i, w := range whole {
			whole[i], carry = bits.Add64(^w, 0, carry)
		}
	}
	return whole, neg
}

// length is how many bits a whole number has.
func length(whole [words]uint64) int {
	for i := words - 1; i >= 0; i-- {
		if whole[i] != 0 {
			return i*wordBits + bits.Len64(whole[i])
		}
	}
	return 0
}

// wordAt is the bits of a whole number from a place on, as many as a word holds; it is never a place of the last word, in which the bits that are rounded begin in no sum.
func wordAt(whole [words]uint64, from int) uint64 {
	i, shift := from/wordBits, from%wordBits
	return whole[i]>>shift | whole[i+1]<<(wordBits-shift)
}

// anyBelow tells whether a whole number has a bit below a place.
func anyBelow(whole [words]uint64, place int) bool {
	for _, w := range whole[:place/wordBits] {
		if w != 0 {
			return true
		}
	}
	return whole[place/wordBits]<<(wordBits-place%wordBits) != 0
}

// Sums keeps an exact sum.
type Sums struct {
	sum   exact
	count int
}

// NewSums is the sum of nothing.
func NewSums() *Sums { return new(Sums) }

// Add adds a number.
func (s *Sums) Add(x float64) api.Errno {
	if s == nil || s.count == api.MaxSum {
		return api.ErrTerms
	}
	s.sum.add(x, 1)
	s.count++
	return api.OK
}

// Total is the exact sum of all that was added.
func (s *Sums) Total() float64 {
	if s == nil {
		return 0
	}
	return s.sum.rounded()
}

// Count is how many were added.
func (s *Sums) Count() int {
	if s == nil {
		return 0
	}
	return s.count
}
