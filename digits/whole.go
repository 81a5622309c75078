package digits

import (
	"cmp"
	"math/bits"
	"slices"
	"strings"
)

const (
	wordBits = 64
	// manyFives is the greatest power of five in a word, and fives is that power.
	manyFives = 27
	fives     = 7450580596923828125
	// manyTens is the greatest power of ten in a word, and tens is that power.
	manyTens = 19
	tens     = 10000000000000000000
)

// whole is a whole number from 0 on: its words, the lowest first, the highest not 0. What a method works on is used up by it, but for compare, shifted and length.
type whole []uint64

// wholeOf is the number that decimal digits say.
func wholeOf(digits string) whole {
	var w whole
	for i := range len(digits) {
		w = w.times(10, uint64(digits[i]-'0'))
	}
	return w
}

// times is the product with a number that is not 0, and a number more.
func (w whole) times(by, more uint64) whole {
	for i, word := range w {
		high, low := bits.Mul64(word, by)
		sum, carry := bits.Add64(low, more, 0)
		w[i], more = sum, high+carry
	}
	return w.below(more)
}

// below is the number with a word above its words, if that is not 0.
func (w whole) below(word uint64) whole {
	if word == 0 {
		return w
	}
	return append(w, word)
}

// timesFives is the product with a power of five.
func (w whole) timesFives(n int) whole {
	for range n / manyFives {
		w = w.times(fives, 0)
	}
	for range n % manyFives {
		w = w.times(5, 0)
	}
	return w
}

// shifted is the product with a power of two, in new memory.
func (w whole) shifted(n int) whole {
	if len(w) == 0 {
		return nil
	}
	words, shift := n/wordBits, n%wordBits
	moved, carry := make(whole, words, words+len(w)+1), uint64(0)
	for _, word := range w {
		moved = append(moved, word<<shift|carry)
		carry = word >> (wordBits - shift)
	}
	return moved.below(carry)
}

// minus is what is left without a number that is not greater.
func (w whole) minus(other whole) whole {
	borrow := uint64(0)
	for i := range w {
		word := uint64(0)
		if i < len(other) {
			word = other[i]
		}
		w[i], borrow = bits.Sub64(w[i], word, borrow)
	}
	return w.trimmed()
}

// over is the number divided by another one, and what is left.
func (w whole) over(by uint64) (whole, uint64) {
	rest := uint64(0)
	for i := len(w) - 1; i >= 0; i-- {
		w[i], rest = bits.Div64(rest, w[i], by)
	}
	return w.trimmed(), rest
}

// trimmed is the number without words above it that are 0.
func (w whole) trimmed() whole {
	for len(w) > 0 && w[len(w)-1] == 0 {
		w = w[:len(w)-1]
	}
	return w
}

func (w whole) compare(other whole) int {
	if len(w) != len(other) {
		return cmp.Compare(len(w), len(other))
	}
	for i := len(w) - 1; i >= 0; i-- {
		if w[i] != other[i] {
			return cmp.Compare(w[i], other[i])
		}
	}
	return 0
}

// length is how many bits the number has.
func (w whole) length() int {
	if len(w) == 0 {
		return 0
	}
	return (len(w)-1)*wordBits + bits.Len64(w[len(w)-1])
}

// text is the decimal digits without noughts ahead, none of 0.
func (w whole) text() string {
	var backward []byte
	for len(w) > 0 {
		var rest uint64
		w, rest = w.over(tens)
		for range manyTens {
			backward = append(backward, '0'+byte(rest%10))
			rest /= 10
		}
	}
	slices.Reverse(backward)
	return strings.TrimLeft(string(backward), "0")
}

// quotient is a over b (which is not 0) as mant * 2^exp: so many bits of it, the first of which may be 0; the last one is 1, too, if more would follow.
func quotient(a, b whole, size int) (mant int64, exp int) {
	shift := b.length() - a.length()
	// With as many bits as the divisor the number is less than twice it, and so is what is left at each place.
	rest, divisor := a.shifted(max(shift, 0)), b.shifted(max(-shift, 0))
	for range size {
		mant *= 2
		if rest.compare(divisor) >= 0 {
			rest = rest.minus(divisor)
			mant++
		}
		rest = rest.times(2, 0)
	}
	if len(rest) > 0 {
		mant |= 1
	}
	return mant, 1 - size - shift
}
