package puny

import "math/bits"

// marks says which places of a list are marked, by how many are in each of its stretches (Fenwick's tree): walking through the list for each code point would take time by the square of its length.
type marks []int

// newMarks is a list without marks. The stretch of i is the places below i, as many as i's last bit that is set says.
func newMarks(length int) marks { return make(marks, length+1) }

// allMarks is a list with a mark at each place.
func allMarks(length int) marks {
	m := newMarks(length)
	for i := range m {
		m[i] = lastBit(i)
	}
	return m
}

func lastBit(i int) int { return i & -i }

// change puts a mark at a place (1), or takes it away (-1).
func (m marks) change(at, by int) {
	for i := at + 1; i < len(m); i += lastBit(i) {
		m[i] += by
	}
}

// ahead is how many places below one are marked.
func (m marks) ahead(at int) int {
	many := 0
	for i := at; i > 0; i -= lastBit(i) {
		many += m[i]
	}
	return many
}

// find is the marked place below which so many are marked.
func (m marks) find(many int) int {
	at := 0
	for step := 1 << bits.Len(uint(len(m))); step > 0; step /= 2 {
		if to := at + step; to < len(m) && m[to] <= many {
			at = to
			many -= m[to]
		}
	}
	return at
}
