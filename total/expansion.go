package total

import (
	"math"
	"slices"

	"postern/api"
)

// splitter is 2^27 + 1, by which a number's upper half is held apart.
const splitter = 134217729

// Two is a sum and what it lost.
func Two(a, b float64) (float64, float64) {
	s := a + b
	t := s - a
	return s, (a - (s - t)) + (b - t)
}

// Split is a number in two halves.
func Split(a float64) (float64, float64) {
	// The conversion keeps the product from being rounded together with a difference.
	g := float64(splitter * a)
	upper := g - (g - a)
	return upper, a - upper
}

// Grow is an expansion with a number more.
func Grow(e []float64, x float64) []float64 {
	g := growth{numbers: slices.Clone(e)}
	g.add(x)
	return g.all()
}

// Expand is the expansion of numbers.
func Expand(l ...float64) ([]float64, api.Errno) {
	if len(l) > api.MaxSum {
		return nil, api.ErrTerms
	}
	var g growth
	for _, x := range l {
		g.add(x)
	}
	return g.all(), api.OK
}

// growth is an expansion that grows: numbers, and behind them some that are none. An expansion that meets one that is none is none from there on and gets longer with each number more: counting those keeps the work from rising with the square of how many there are.
type growth struct {
	numbers []float64
	none    int
}

// add grows it by a number, where it lies: what is put to it never stands behind what was read.
func (g *growth) add(x float64) {
	old, q := g.numbers, x
	g.numbers = old[:0]
	for i, y := range old {
		s, t := Two(q, y)
		q = s
		if math.IsNaN(s) {
			g.none += len(old) - i
			break
		}
		if t != 0 {
			g.numbers = append(g.numbers, t)
		}
	}
	switch {
	case g.none > 0 || math.IsNaN(q):
		g.none++
	case q != 0:
		g.numbers = append(g.numbers, q)
	}
}

// all is the numbers and those that are none.
func (g *growth) all() []float64 {
	l := g.numbers
	for range g.none {
		l = append(l, math.NaN())
	}
	return l
}
