package digits

import (
	"math/bits"
	"strings"

	"postern/api"
	"postern/real"
)

// Hex is x to the base 16, with a power of two.
func Hex(x float64) string {
	p := real.Parts(x)
	return told(p, hexOf(p.Mant, p.Exp))
}

// hexOf is mant * 2^exp to the base 16.
func hexOf(mant uint64, exp int) string {
	if mant == 0 {
		return "0x0p+0"
	}
	length := bits.Len64(mant)
	l := []byte("0x1")
	// What stands behind the first bit, as high as it goes, is the fraction; the shift may be by the whole word.
	fraction := mant << (wordBits + 1 - length)
	if fraction != 0 {
		l = append(l, '.')
	}
	for ; fraction != 0; fraction <<= 4 {
		l = append(l, sixteenDigits[fraction>>60])
	}
	return string(l) + "p" + withPlus(exp+length-1)
}

// ParseHex is the float of 64 bits nearest to what a text to the base 16 says.
func ParseHex(s string) (float64, int, api.Errno) {
	t, at, e := readHex(s)
	if e != api.OK {
		return 0, at, e
	}
	mant, exp := hexMant(t.whole + t.fraction)
	exp += apart(t.power, power{}) - 4*len(t.fraction)
	return withSign(real.Near(mant, exp), t.neg), 0, api.OK
}

// hexMant is digits to the base 16 as mant * 2^exp; the last bit of mant is 1, too, if it is not all that they say.
func hexMant(digits string) (mant int64, exp int) {
	for i := range len(digits) {
		digit := hexDigit(digits[i])
		switch {
		case mant < 1<<58:
			mant = 16*mant + digit
			continue
		case digit != 0:
			mant |= 1
		}
		exp += 4
	}
	return mant, exp
}

// hexDigit is what a digit to the base 16 says, either size of letters.
func hexDigit(b byte) int64 {
	at := strings.IndexByte(sixteenDigits, b)
	if at >= 16 {
		at -= 6
	}
	return int64(at)
}
