package stage

import "postern/api"

const (
	blockSize  = 128
	blockCount = (api.MaxPoint + 1) / blockSize
)

// block is the numbers of code points that follow one another.
type block [blockSize]uint16

// maker makes a table of blocks that come one by one. Every table comes out of one (but that of noughts alone), so that each has its one numbering of blocks.
type maker struct {
	table *Table
	known map[block]uint16
}

func newMaker() *maker { return &maker{table: new(Table), known: make(map[block]uint16)} }

// add puts a block behind the ones ahead.
func (m *maker) add(b block) {
	n, ok := m.known[b]
	if !ok {
		n = uint16(len(m.table.unlike))
		m.known[b] = n
		m.table.unlike = append(m.table.unlike, b)
	}
	m.table.places = append(m.table.places, n)
}

// laid is a table with rows laid over it. They rise and are apart, but there may be more than MaxRows of them.
func laid(t *Table, rows []api.Value) *Table {
	t = full(t)
	m := newMaker()
	for i, n := range t.places {
		b, first := t.unlike[n], rune(i*blockSize)
		for len(rows) > 0 && rows[0].From < first+blockSize {
			b.lay(first, rows[0])
			if rows[0].To >= first+blockSize {
				break
			}
			rows = rows[1:]
		}
		m.add(b)
	}
	return m.table
}

// lay puts a row's number at those of its code points that are in the block, which begins at first.
func (b *block) lay(first rune, r api.Value) {
	from, to := max(r.From-first, 0), min(r.To-first, blockSize-1)
	for i := from; i <= to; i++ {
		b[i] = uint16(r.N)
	}
}

// times is how often each unlike block of a table that is full comes. Numbers are counted by it, as most tables have few unlike blocks.
func (t *Table) times() []int {
	out := make([]int, len(t.unlike))
	for _, n := range t.places {
		out[n]++
	}
	return out
}

// tally is of how many code points a table says each number from 0 to MaxValue.
func tally(t *Table) []int {
	t = full(t)
	out := make([]int, api.MaxValue+1)
	for i, many := range t.times() {
		for _, n := range t.unlike[i] {
			out[n] += many
		}
	}
	return out
}
