package mapping

import "postern/book"

// Mapper maps a name in pieces.
type Mapper struct {
	tables *book.Tables
	// fed is how many code points went in.
	fed int
	// sources is the source of each code point that came out.
	sources []int
}

// NewMapper is a mapper to which nothing was fed.
func NewMapper(t *book.Tables) *Mapper { return &Mapper{tables: t} }

// Feed takes a piece: it mapped.
func (m *Mapper) Feed(r []rune) []rune {
	if m == nil {
		return nil
	}
	m.sources = appendSources(m.sources, m.tables, r, m.fed)
	m.fed += len(r)
	return Map(m.tables, r)
}

// Place is where a code point came from.
func (m *Mapper) Place(out int) (int, bool) {
	if m == nil || out < 0 || out >= len(m.sources) {
		return 0, false
	}
	return m.sources[out], true
}

// Count is how many went in and came out.
func (m *Mapper) Count() (int, int) {
	if m == nil {
		return 0, 0
	}
	return m.fed, len(m.sources)
}
