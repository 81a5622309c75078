package total

import (
	"math"
	"math/big"
	"slices"
	"testing"

	"postern/api"
)

// room is bits enough for every sum of products of floats, from the least product on to MaxSum of the greatest.
const room = 4400

const (
	least   = math.SmallestNonzeroFloat64
	most    = math.MaxFloat64
	tiny    = 0x1p-53 // half of the step from 1 to the next float
	lastBit = 0x1p-52 // that step
)

var (
	infinite = math.Inf(1)
	none     = math.NaN()
	below0   = math.Copysign(0, -1)
)

func isNone(x float64) bool { return x != x }

func isFinite(x float64) bool { return !isNone(x) && math.Abs(x) <= most }

func allFinite(l []float64) bool {
	return !slices.ContainsFunc(l, func(x float64) bool { return !isFinite(x) })
}

// alike tells whether both have the same bits, or both are none.
func alike(x, y float64) bool {
	return isNone(x) && isNone(y) || math.Float64bits(x) == math.Float64bits(y)
}

func alikeLists(a, b []float64) bool { return slices.EqualFunc(a, b, alike) }

// is tells of an answer that is not the wanted one.
func is(t *testing.T, what string, l any, got, want float64) {
	t.Helper()
	if !alike(got, want) {
		t.Fatalf("%s of %v: %v, not %v", what, l, got, want)
	}
}

// good takes a call's answer and tells of an error.
func good(t *testing.T) func(float64, api.Errno) float64 {
	return func(x float64, e api.Errno) float64 {
		t.Helper()
		if e != api.OK {
			t.Fatalf("error %d", e)
		}
		return x
	}
}

// number is the real number that a finite float is.
func number(x float64) *big.Float { return new(big.Float).SetPrec(room).SetFloat64(x) }

func product(x, y float64) *big.Float {
	return new(big.Float).SetPrec(room).Mul(number(x), number(y))
}

// trueSum is the sum of finite floats as a real number.
func trueSum(l []float64) *big.Float {
	sum := new(big.Float).SetPrec(room)
	for _, x := range l {
		if sum.Add(sum, number(x)).Acc() != big.Exact {
			panic("not exact")
		}
	}
	return sum
}

// trueDot is the sum of finite floats' products as a real number.
func trueDot(a, b []float64) *big.Float {
	sum := new(big.Float).SetPrec(room)
	for i, x := range a {
		if sum.Add(sum, product(x, b[i])).Acc() != big.Exact {
			panic("not exact")
		}
	}
	return sum
}

// rounded is the float nearest to a real number.
func rounded(z *big.Float) float64 {
	x, _ := z.Float64()
	return x
}

// plus, less, times and over are one operation each, reckoned exactly and rounded by itself; the machine has its say where a number is not finite or both are noughts alone.
func plus(x, y float64) float64 {
	if !isFinite(x) || !isFinite(y) || x == 0 && y == 0 {
		return x + y
	}
	return rounded(new(big.Float).SetPrec(room).Add(number(x), number(y)))
}

func less(x, y float64) float64 { return plus(x, math.Copysign(y, -math.Copysign(1, y))) }

func times(x, y float64) float64 {
	if !isFinite(x) || !isFinite(y) || x == 0 || y == 0 {
		return x * y
	}
	return rounded(product(x, y))
}

func over(x, y float64) float64 {
	if !isFinite(x) || !isFinite(y) || x == 0 || y == 0 {
		return x / y
	}
	return rounded(new(big.Float).SetPrec(room).Quo(number(x), number(y)))
}

// wantSum adds in turn, from 0 on.
func wantSum(l []float64) float64 {
	sum := 0.0
	for _, x := range l {
		sum = plus(sum, x)
	}
	return sum
}

// wantExact goes by the words of the exact sum.
func wantExact(l []float64) float64 {
	switch {
	case slices.ContainsFunc(l, isNone):
		return none
	case slices.Contains(l, infinite) && slices.Contains(l, -infinite):
		return none
	case slices.Contains(l, infinite):
		return infinite
	case slices.Contains(l, -infinite):
		return -infinite
	}
	sum := trueSum(l)
	if sum.Sign() != 0 {
		return rounded(sum)
	}
	if len(l) > 0 && !slices.ContainsFunc(l, func(x float64) bool { return !alike(x, below0) }) {
		return below0
	}
	return 0
}

// wantExactDot goes by the words of promise 5.3; what a product is by its kind and sign, the machine says.
func wantExactDot(a, b []float64) float64 {
	var x, y, kinds []float64
	for i := range a {
		if k := a[i] * b[i]; isFinite(a[i]) && isFinite(b[i]) {
			x, y = append(x, a[i]), append(y, b[i])
			if a[i] != 0 && b[i] != 0 {
				k = 1
			}
			kinds = append(kinds, k)
		} else {
			kinds = append(kinds, k)
		}
	}
	if slices.ContainsFunc(kinds, func(k float64) bool { return !isFinite(k) }) || trueDot(x, y).Sign() == 0 {
		// Noughts, infinite ones and what is none are summed as they are; a product that is a number is none of them.
		kinds = slices.DeleteFunc(kinds, func(k float64) bool { return k == 1 })
		if len(kinds) < len(a) {
			kinds = append(kinds, 0)
		}
		return wantExact(kinds)
	}
	return rounded(trueDot(x, y))
}

// source makes numbers that look like chance, the same ones each time.
type source uint64

func (s *source) bits() uint64 {
	*s += 0x9e3779b97f4a7c15
	z := uint64(*s)
	z = (z ^ z>>30) * 0xbf58476d1ce4e5b9
	z = (z ^ z>>27) * 0x94d049bb133111eb
	return z ^ z>>31
}

func (s *source) below(n int) int { return int(s.bits() % uint64(n)) }

// between is a float whose exponent lies between two, with few ones in its fraction more often than not, so that halfway cases come.
func (s *source) between(from, to int) float64 {
	f := s.bits() >> 12
	if n := s.below(100); n < 52 {
		f = f >> n << n
	}
	x := math.Ldexp(1+float64(f)*lastBit, from+s.below(to-from+1))
	if s.bits()%2 == 0 {
		return -x
	}
	return x
}

// list is numbers of one manner: of all exponents, near one another, about the least ones, about the greatest ones, with their negatives, or with noughts, infinite ones and none among them.
func (s *source) list(size int) []float64 {
	l := make([]float64, size)
	manner := s.below(6)
	for i := range l {
		switch manner {
		case 0:
			l[i] = s.between(-1074, 1023)
		case 1:
			l[i] = s.between(-60, 60)
		case 2:
			l[i] = s.between(-1074, -1020)
		case 3:
			l[i] = s.between(960, 1023)
		case 4:
			l[i] = s.between(-200, 200)
			if i > 0 && s.below(2) == 0 {
				l[i] = -l[s.below(i)]
			}
		case 5:
			l[i] = edges()[s.below(len(edges()))]
		}
	}
	return l
}

// edges are the floats about which sums change their ways.
func edges() []float64 {
	l := []float64{0, below0, infinite, -infinite, none}
	for _, x := range []float64{least, 2 * least, 0x1p-1022 - least, 0x1p-1022, 0x1p-1021, tiny, lastBit, 0.1, 1, 1 + lastBit, 3, 0x1p53, 1e16, 0x1p600, 0x1p969, 0x1p970, 0x3p970, 0x1p971, 0x1p1023, most} {
		l = append(l, x, -x)
	}
	return l
}

// lists are lists of none, of one, two and three edges, and many more of all manners.
func lists() [][]float64 {
	l := [][]float64{nil, {}}
	for _, x := range edges() {
		l = append(l, []float64{x})
		for _, y := range edges() {
			l = append(l, []float64{x, y})
		}
	}
	for _, x := range edges() {
		for _, y := range []float64{below0, infinite, tiny, -0x1p970, most} {
			for _, z := range []float64{0, none, -infinite, least, -1, 0x1p53, -most} {
				l = append(l, []float64{x, y, z})
			}
		}
	}
	s := source(1)
	for range 600 {
		l = append(l, s.list(3+s.below(40)))
	}
	return l
}

// many is a list of MaxSum numbers and so many more, all alike.
func many(more int, x float64) []float64 { return slices.Repeat([]float64{x}, api.MaxSum+more) }

// guarded is a copy of a list with spare room behind it, and a call that tells whether all of that is still as it was.
func guarded(l []float64) ([]float64, func() bool) {
	given := make([]float64, len(l), len(l)+9)
	copy(given, l)
	for i := len(l); i < cap(given); i++ {
		given[:cap(given)][i] = float64(-7 - i)
	}
	was := slices.Clone(given[:cap(given)])
	return given, func() bool { return alikeLists(given[:cap(given)], was) }
}
