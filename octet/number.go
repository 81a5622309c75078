package octet

import (
	"math"
	"strconv"

	"postern/api"
)

const (
	leastBase    = 2
	greatestBase = 36
)

// Digit is what a byte says as a digit; -1: it is none.
func Digit(b byte, base int) int {
	if !isBase(base) {
		return -1
	}
	if d := worth(b); d < base {
		return d
	}
	return -1
}

// Number is the number of digits.
func Number(s string, base int) (uint64, int, api.Errno) {
	if !isBase(base) {
		return 0, 0, api.ErrBase
	}
	if at := firstWrong(s, base); at >= 0 {
		return 0, at, api.ErrDigit
	}
	n, fits := sum(s, base)
	if !fits {
		return 0, 0, api.ErrGreat
	}
	return n, 0, api.OK
}

// Print is a number in digits.
func Print(n uint64, base int) (string, api.Errno) {
	if !isBase(base) {
		return "", api.ErrBase
	}
	return strconv.FormatUint(n, base), api.OK
}

// Hex is a byte as two digits.
func Hex(b byte) string {
	const digits = "0123456789ABCDEF"
	return string([]byte{digits[b>>4], digits[b&15]})
}

func isBase(base int) bool { return leastBase <= base && base <= greatestBase }

// worth is what a byte says to the greatest base; what says nothing is worth more than any digit, so that one comparison with the base tells both.
func worth(b byte) int {
	switch {
	case isDigit(b):
		return int(b - '0')
	case isUpper(b):
		return int(b-'A') + 10
	case isLower(b):
		return int(b-'a') + 10
	}
	return greatestBase
}

// firstWrong is the place of the first byte that is no digit; -1: all are. No digits are no number, and the fault is at 0.
func firstWrong(s string, base int) int {
	if s == "" {
		return 0
	}
	for i := range len(s) {
		if worth(s[i]) >= base {
			return i
		}
	}
	return -1
}

// sum is the number of digits, all of which are digits to the base, and whether it fits into 64 bits.
func sum(s string, base int) (uint64, bool) {
	n := uint64(0)
	for i := range len(s) {
		d := uint64(worth(s[i]))
		// Asked ahead: n*base + d wraps round when it is too great.
		if n > (math.MaxUint64-d)/uint64(base) {
			return 0, false
		}
		n = n*uint64(base) + d
	}
	return n, true
}
