package stage

import "postern/api"

const (
	numberBytes = 2
	// headNumbers is how many numbers stand ahead of the blocks.
	headNumbers = 1 + blockCount
)

// Pack is the table as a text.
func (t *Table) Pack() string {
	t = full(t)
	out := make([]byte, 0, numberBytes*(headNumbers+blockSize*len(t.unlike)))
	out = appendNumber(out, uint16(len(t.unlike)))
	for _, n := range t.places {
		out = appendNumber(out, n)
	}
	for _, b := range t.unlike {
		for _, n := range b {
			out = appendNumber(out, n)
		}
	}
	return string(out)
}

func appendNumber(l []byte, n uint16) []byte { return append(l, byte(n>>8), byte(n)) }

// numberAt is the i-th number of a text.
func numberAt(s string, i int) int { return int(s[numberBytes*i])<<8 | int(s[numberBytes*i+1]) }

// Unpack is the table of a text.
func Unpack(s string) (*Table, api.Errno) {
	if len(s) < numberBytes*headNumbers {
		return nil, api.ErrPacked
	}
	unlike := make([]block, numberAt(s, 0))
	if len(s) != numberBytes*(headNumbers+blockSize*len(unlike)) {
		return nil, api.ErrPacked
	}
	for i := range unlike {
		unlike[i] = blockAt(s, headNumbers+blockSize*i)
	}
	m := newMaker()
	for i := range blockCount {
		n := numberAt(s, 1+i)
		if n >= len(unlike) {
			return nil, api.ErrPacked
		}
		m.add(unlike[n])
	}
	// A text with an unused block, a double one, or one in another order says a table too, but that one has another text.
	if m.table.Pack() != s {
		return nil, api.ErrPacked
	}
	return m.table, api.OK
}

// blockAt is the block of a text that begins at its i-th number.
func blockAt(s string, i int) block {
	var b block
	for j := range b {
		b[j] = uint16(numberAt(s, i+j))
	}
	return b
}
