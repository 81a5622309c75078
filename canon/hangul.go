package canon

// The jamo and the syllables of Hangul.
const (
	firstL = 4352
	manyL  = 19
	firstV = 4449
	manyV  = 21
	// noT stands ahead of the third jamo: a syllable of two has the number that it would have with this one.
	noT   = 4519
	manyT = 28

	firstS = 44032
	// manyOfL is how many syllables begin with one jamo.
	manyOfL = manyV * manyT
	manyS   = manyL * manyOfL
)

// Syllable is the jamo of a Hangul syllable.
func Syllable(p rune) (rune, rune, rune, bool) {
	if p < firstS || p >= firstS+manyS {
		return 0, 0, 0, false
	}
	place := p - firstS
	l, v, t := firstL+place/manyOfL, firstV+place%manyOfL/manyT, rune(0)
	if behind := place % manyT; behind != 0 {
		t = noT + behind
	}
	return l, v, t, true
}

// Hangul is the Hangul syllable of two or three jamo.
func Hangul(l, v, t rune) (rune, bool) {
	if t == 0 {
		t = noT
	} else if t == noT {
		return 0, false
	}
	if l < firstL || l >= firstL+manyL || v < firstV || v >= firstV+manyV || t < noT || t >= noT+manyT {
		return 0, false
	}
	return firstS + (l-firstL)*manyOfL + (v-firstV)*manyT + (t - noT), true
}

// appendJamo appends two jamo, or three.
func appendJamo(out []rune, l, v, t rune) []rune {
	out = append(out, l, v)
	if t != 0 {
		out = append(out, t)
	}
	return out
}
