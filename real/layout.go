package real

import (
	"math/bits"

	"postern/api"
)

// layout is how floats of one size are laid out in their bits: the sign bit, then e, then the fraction, which stands lowest.
type layout struct {
	fraction int    // how many bits the fraction has
	greatest uint64 // the greatest e
	bias     int
}

func double() layout { return layout{fraction: 52, greatest: 2047, bias: 1023} }

func single() layout { return layout{fraction: 23, greatest: 255, bias: 127} }

func half() layout { return layout{fraction: 10, greatest: 31, bias: 15} }

func brain() layout { return layout{fraction: 7, greatest: 255, bias: 127} }

// short is a layout with the exponent of 64 bits and a fraction of any length.
func short(fraction int) layout {
	l := double()
	l.fraction = fraction
	return l
}

// lowest is the power of two that a subnormal float's lowest bit stands for.
func (l layout) lowest() int { return 1 - l.bias - l.fraction }

// one is the bit that normal floats have ahead of their fraction, which is not written.
func (l layout) one() uint64 { return 1 << l.fraction }

// quiet is the bit of the fraction by which no numbers are quiet.
func (l layout) quiet() uint64 { return 1 << (l.fraction - 1) }

func (l layout) infinite() uint64 { return l.greatest << l.fraction }

func (l layout) sign() uint64 { return 1 << (l.fraction + bits.Len64(l.greatest)) }

// signed is the bits of a float's size with its sign bit.
func (l layout) signed(size uint64, neg bool) uint64 {
	if neg {
		return size | l.sign()
	}
	return size
}

// parts is what the float with these bits is made of.
func (l layout) parts(b uint64) api.Float {
	e := b >> l.fraction & l.greatest
	f := b & (l.one() - 1)
	p := api.Float{Neg: b&l.sign() != 0}
	switch {
	case e == l.greatest && f != 0:
		p.Kind, p.Quiet, p.Load = api.FloatNone, f&l.quiet() != 0, f&^l.quiet()
	case e == l.greatest:
		p.Kind = api.FloatInfinite
	case e != 0:
		p.Kind, p.Mant, p.Exp = api.FloatNormal, l.one()|f, l.lowest()+int(e)-1
	case f != 0:
		p.Kind, p.Mant, p.Exp = api.FloatSubnormal, f, l.lowest()
	}
	return p
}

// bitsOf is the bits of the float that is made of just these parts, if there is one.
func (l layout) bitsOf(p api.Float) (uint64, bool) {
	b := uint64(0)
	switch p.Kind {
	case api.FloatSubnormal:
		b = p.Mant
	case api.FloatNormal:
		b = (uint64(p.Exp)-uint64(l.lowest()))<<l.fraction + p.Mant
	case api.FloatInfinite:
		b = l.infinite()
	case api.FloatNone:
		b = l.infinite() | p.Load
		if p.Quiet {
			b |= l.quiet()
		}
	}
	b = l.signed(b&(l.sign()-1), p.Neg)
	// Parts of no float come to the bits of some other one, which is made of other parts.
	return b, l.parts(b) == p
}

// rounded is the bits of the float of this layout that is nearest to what the parts say; their Mant and Exp may be any.
func (l layout) rounded(p api.Float) uint64 {
	switch p.Kind {
	case api.FloatNone:
		return l.infinite() | l.quiet()
	case api.FloatInfinite:
		return l.signed(l.infinite(), p.Neg)
	}
	return l.signed(l.nearest(p.Mant, p.Exp), p.Neg)
}

// nearest is the bits of mant * 2^exp, rounded; exp is not so great that a sum with it leaves an int.
func (l layout) nearest(mant uint64, exp int) uint64 {
	if mant == 0 {
		return 0
	}
	power := exp + bits.Len64(mant) - 1
	if power > l.bias {
		return l.infinite()
	}
	unit := max(power-l.fraction, l.lowest())
	n := inUnits(mant, unit-exp)
	// The bit ahead of the fraction, and one more by rounding, carry into e, from the greatest finite float on to infinite.
	return uint64(unit-l.lowest())<<l.fraction + n
}

// inUnits is mant over 2^shift, rounded to a whole number, of two equally near to the even one.
func inUnits(mant uint64, shift int) uint64 {
	if shift <= 0 {
		return mant << -shift
	}
	if shift > 64 {
		return 0
	}
	const middle = 1 << 63
	whole, rest := mant>>shift, mant<<(64-shift)
	if rest > middle || rest == middle && whole&1 == 1 {
		whole++
	}
	return whole
}
