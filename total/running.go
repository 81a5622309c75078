package total

import (
	"postern/api"
	"postern/real"
)

// Running is numbers' mean and spread as they come.
type Running struct {
	count           int
	mean, squares   float64
	least, greatest float64
}

// NewRunning is one without numbers.
func NewRunning() *Running { return new(Running) }

// Add takes a number.
func (r *Running) Add(x float64) api.Errno {
	if r == nil || r.count == api.MaxSum {
		return api.ErrTerms
	}
	if r.count == 0 {
		r.least, r.greatest = x, x
	}
	r.least, r.greatest = real.Minimum(r.least, x), real.Maximum(r.greatest, x)
	r.count++
	d := x - r.mean
	r.mean += d / float64(r.count)
	// The conversion keeps the product from being rounded together with the sum.
	r.squares += float64(d * (x - r.mean))
	return api.OK
}

// Mean is the mean so far.
func (r *Running) Mean() float64 {
	if r == nil {
		return 0
	}
	return r.mean
}

// Variance is the spread so far.
func (r *Running) Variance() float64 {
	if r == nil || r.count == 0 {
		return 0
	}
	return r.squares / float64(r.count)
}

// Least is the least number so far.
func (r *Running) Least() (float64, bool) {
	if r == nil || r.count == 0 {
		return 0, false
	}
	return r.least, true
}

// Greatest is the greatest number so far.
func (r *Running) Greatest() (float64, bool) {
	if r == nil || r.count == 0 {
		return 0, false
	}
	return r.greatest, true
}
