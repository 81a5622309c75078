package compose

import "postern/canon"

// The jamo of Hangul, first and last ones of each kind.
const (
	firstL, lastL = 4352, 4370
	firstV, lastV = 4449, 4469
	firstT, lastT = 4520, 4546
)

// Hangul is how many code points are jamo, syllables of two jamo, and syllables of three.
func Hangul(r []rune) (int, int, int) {
	jamo, twos, threes := 0, 0, 0
	for _, p := range r {
		_, _, third, ok := canon.Syllable(p)
		switch {
		case ok && third == 0:
			twos++
		case ok:
			threes++
		case p >= firstL && p <= lastL || isLaterJamo(p):
			jamo++
		}
	}
	return jamo, twos, threes
}

// isLaterJamo tells whether a code point is the second or the third jamo of a syllable.
func isLaterJamo(p rune) bool {
	return p >= firstV && p <= lastV || p >= firstT && p <= lastT
}

// hangulPair is the syllable of two jamo, or of a syllable of two and a third one.
func hangulPair(a, b rune) (rune, bool) {
	// Asked ahead of canon, to which 0 says that there is no third jamo.
	if !isLaterJamo(b) {
		return 0, false
	}
	if s, ok := canon.Hangul(a, b, 0); ok {
		return s, true
	}
	l, v, third, ok := canon.Syllable(a)
	if !ok || third != 0 {
		return 0, false
	}
	return canon.Hangul(l, v, b)
}
