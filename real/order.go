package real

import (
	"cmp"
	"math"
)

// Up is the least float above x.
func Up(x float64) float64 {
	switch {
	case math.IsNaN(x) || x > math.MaxFloat64:
		return x
	case x == 0:
		return math.Float64frombits(1)
	case x < 0:
		return math.Float64frombits(math.Float64bits(x) - 1)
	}
	return math.Float64frombits(math.Float64bits(x) + 1)
}

// Down is the greatest float below x.
func Down(x float64) float64 { return turned(Up(turned(x))) }

// Order tells whether x is ahead of, the same bits as, or behind y in the total order.
func Order(x, y float64) int { return cmp.Compare(rank(x), rank(y)) }

// Same tells whether both have the same bits, or are both no numbers.
func Same(x, y float64) bool {
	return math.Float64bits(x) == math.Float64bits(y) || math.IsNaN(x) && math.IsNaN(y)
}

// Minimum is the lesser number of both.
func Minimum(x, y float64) float64 {
	if math.IsNaN(x) || math.IsNaN(y) {
		return none()
	}
	if Order(x, y) <= 0 {
		return x
	}
	return y
}

// Maximum is the greater number of both.
func Maximum(x, y float64) float64 {
	if math.IsNaN(x) || math.IsNaN(y) {
		return none()
	}
	if Order(x, y) >= 0 {
		return x
	}
	return y
}

// Least is the least of all by the total order, and its place.
func Least(first float64, more ...float64) (float64, int) {
	least, at := first, 0
	for i, x := range more {
		if Order(x, least) < 0 {
			least, at = x, i+1
		}
	}
	return least, at
}

// Steps is how many times Up leads from the lesser number to the greater one.
func Steps(x, y float64) (uint64, bool) {
	if math.IsNaN(x) || math.IsNaN(y) {
		return 0, false
	}
	a, b := place(x), place(y)
	// From one end to the other there are more steps than an int64 holds, but none too many for the difference's bits.
	return uint64(max(a, b)) - uint64(min(a, b)), true
}

// rank is a whole number that rises with the total order.
func rank(x float64) uint64 {
	b := math.Float64bits(x)
	if sign := double().sign(); b&sign == 0 {
		return b | sign
	}
	return ^b
}

// place is a number's place among the floats, with both noughts at 0.
func place(x float64) int64 {
	b, sign := math.Float64bits(x), double().sign()
	if b&sign == 0 {
		return int64(b)
	}
	return -int64(b &^ sign)
}
