package total

import (
	"postern/api"
	"postern/real"
)

// Mean is the exact sum over how many there are.
func Mean(l []float64) (float64, api.Errno) {
	if len(l) == 0 {
		return 0, api.ErrArg
	}
	sum, e := Exact(l...)
	if e != api.OK {
		return 0, e
	}
	return sum / float64(len(l)), api.OK
}

// Variance is the mean square of what is left when the mean is taken off.
func Variance(l []float64) (float64, api.Errno) {
	mean, e := Mean(l)
	if e != api.OK {
		return 0, e
	}
	var squares exact
	for _, x := range l {
		d := x - mean
		squares.add(d, d)
	}
	return squares.rounded() / float64(len(l)), api.OK
}

// Norm is the root of the sum of squares.
func Norm(l []float64) (float64, api.Errno) {
	squares, e := ExactDot(l, l)
	if e != api.OK {
		return 0, e
	}
	return real.Sqrt(squares), api.OK
}

// Manhattan is the exact sum of the sizes.
func Manhattan(l []float64) (float64, api.Errno) {
	if len(l) > api.MaxSum {
		return 0, api.ErrTerms
	}
	var sum exact
	for _, x := range l {
		sum.add(size(x), 1)
	}
	return sum.rounded(), api.OK
}
