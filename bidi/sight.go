package bidi

import (
	"postern/api"
	"postern/book"
)

// directions is a set of them: a bit for each, at its number.
type directions uint32

// What the rules ask of directions.
const (
	// A label that begins with one of these runs from left to right, from right to left.
	rightward directions = 1 << api.BidiL
	leftward  directions = 1<<api.BidiR | 1<<api.BidiAL

	european directions = 1 << api.BidiEN
	arabic   directions = 1 << api.BidiAN
	marks    directions = 1 << api.BidiNSM

	// What makes a name a bidi name.
	strong = leftward | arabic
	// What a label may have beside those, whichever way it runs.
	either = european | marks | 1<<api.BidiES | 1<<api.BidiCS | 1<<api.BidiET | 1<<api.BidiON | 1<<api.BidiBN
)

// in tells whether each one of a set is in another.
func (d directions) in(others directions) bool { return d&^others == 0 }

// direction is that of a code point, as a set of one.
func direction(t *book.Tables, p rune) directions { return 1 << t.Bidi(p) }

// sight is what the rules look at in a label: the direction of its first code point, that of the last one that is not NSM, and all of them.
type sight struct{ first, last, all directions }

// lookAt goes over a label that is not empty. It finds no last one where all are NSM: such a label breaks rule 1, so that nothing asks for it.
func lookAt(t *book.Tables, label []rune) sight {
	s := sight{first: direction(t, label[0])}
	for _, p := range label {
		d := direction(t, p)
		s.all |= d
		if d != marks {
			s.last = d
		}
	}
	return s
}

// ofRight is the rules that a label from right to left breaks.
func (s sight) ofRight() []int {
	var broken []int
	if !s.all.in(strong | either) {
		broken = append(broken, 2)
	}
	if !s.last.in(strong | european) {
		broken = append(broken, 3)
	}
	if both := european | arabic; s.all&both == both {
		broken = append(broken, 4)
	}
	return broken
}

// ofLeft is the rules that a label from left to right breaks.
func (s sight) ofLeft() []int {
	var broken []int
	if !s.all.in(rightward | either) {
		broken = append(broken, 5)
	}
	if !s.last.in(rightward | european) {
		broken = append(broken, 6)
	}
	return broken
}
