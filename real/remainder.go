package real

import "postern/api"

// Remainder is what is left of x beside the multiple of y that is nearest to it.
func Remainder(x, y float64) float64 {
	p, q := Parts(x), Parts(y)
	switch {
	case !isFinite(p) || q.Kind == api.FloatNone || q.Kind == api.FloatNought:
		return none()
	case q.Kind == api.FloatInfinite:
		return x
	}
	return number(nearestRest(p, q))
}

// nearestRest is the parts of what is left; the divisor is not nought.
func nearestRest(p, q api.Float) api.Float {
	// A divisor with a greater exponent is normal: two bits more make it over twice the other number, and so would all further ones.
	divisor := q.Mant << min(max(q.Exp-p.Exp, 0), 2)
	rest, odd := restOf(p.Mant, max(p.Exp-q.Exp, 0), divisor)
	if 2*rest > divisor || 2*rest == divisor && odd {
		rest = divisor - rest
		p.Neg = !p.Neg
	}
	return api.Float{Neg: p.Neg, Mant: rest, Exp: min(p.Exp, q.Exp)}
}

// restOf is what mant * 2^shift leaves over the divisor, and whether it holds the divisor an odd number of times.
func restOf(mant uint64, shift int, divisor uint64) (uint64, bool) {
	rest, odd := mant%divisor, mant/divisor%2 == 1
	for range shift {
		rest *= 2
		if odd = rest >= divisor; odd {
			rest -= divisor
		}
	}
	return rest, odd
}
