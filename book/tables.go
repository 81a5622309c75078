package book

import (
	"slices"

	"postern/api"
	"postern/stage"
)

// Tables is a book, compiled. It is never changed once it is made; the zero one is as a nil one.
type Tables struct {
	book api.Book // in memory of its own

	status, class, bidi, join, script *stage.Table
	excluded, marks                   *stage.Table // 1 of what is in
	maps, decomp, like                *stage.Table // places of rows, which are looked at then: the first one's is 0, as is what is said where there is none

	pairs map[[2]rune]rune
}

// Compile is the tables of a book.
func Compile(b api.Book) (*Tables, api.Errno) {
	if _, e := Check(b); e != api.OK {
		return nil, e
	}
	b = copyOf(b)
	t := &Tables{
		book:     b,
		class:    built(b.Class),
		bidi:     built(b.Bidi),
		join:     built(b.Join),
		script:   built(b.Script),
		excluded: built(marked(b.Excluded)),
		marks:    built(marked(b.Marks)),
		maps:     built(placed(b.Maps)),
		decomp:   built(placed(b.Decomp)),
		like:     built(placed(b.Like)),
		pairs:    pairsOf(&b),
	}
	// Laid over, as both lists together may have more rows than a table is built of.
	t.status, _, _ = built(b.Status).Over(mapped(b.Maps))
	return t, api.OK
}

// built is the table of rows of a book that may be, of which stage tells no error.
func built(rows []api.Value) *stage.Table {
	t, _, _ := stage.Build(rows)
	return t
}

// marked is rows that say 1.
func marked(rows []api.Span) []api.Value {
	out := make([]api.Value, len(rows))
	for i, r := range rows {
		out[i] = api.Value{From: r.From, To: r.To, N: 1}
	}
	return out
}

// placed is rows that say the place of each row. No 1 is added to it, as MaxRows is more than a table's numbers go.
func placed(rows []api.Chars) []api.Value {
	out := make([]api.Value, len(rows))
	for i, r := range rows {
		out[i] = api.Value{From: r.From, To: r.To, N: i}
	}
	return out
}

// mapped is rows that say StatusMapped.
func mapped(rows []api.Chars) []api.Value {
	out := make([]api.Value, len(rows))
	for i, r := range rows {
		out[i] = api.Value{From: r.From, To: r.To, N: api.StatusMapped}
	}
	return out
}

// pairsOf is what each pair that composes composes to.
func pairsOf(b *api.Book) map[[2]rune]rune {
	pairs := make(map[[2]rune]rune)
	for _, r := range b.Decomp {
		if composes(b, r) {
			pairs[[2]rune{r.Is[0], r.Is[1]}] = r.From
		}
	}
	return pairs
}

// charsBy is what the row that has a code point says, found by a table of places.
func charsBy(t *stage.Table, rows []api.Chars, p rune) []rune {
	i := t.Look(p)
	if i >= len(rows) || p < rows[i].From || p > rows[i].To {
		return nil
	}
	return slices.Clone(rows[i].Is)
}

// orNone is the tables, or those of a book without rows.
func (t *Tables) orNone() *Tables {
	if t == nil {
		return new(Tables)
	}
	return t
}

// Point is what the tables say of a code point.
func (t *Tables) Point(p rune) api.Point {
	return api.Point{
		Status:   t.Status(p),
		Map:      t.Map(p),
		Class:    t.Class(p),
		Parts:    t.Parts(p),
		Excluded: t.orNone().excluded.Look(p) != 0,
		Bidi:     t.Bidi(p),
		Join:     t.Join(p),
		Mark:     t.Mark(p),
		Script:   t.Script(p),
		Like:     t.Like(p),
	}
}

// Status is what the mapping makes of a code point.
func (t *Tables) Status(p rune) int { return t.orNone().status.Look(p) }

// Kept tells whether a code point is valid or a deviation.
func (t *Tables) Kept(p rune) bool { return keeps(t.Status(p)) }

// Map is what a code point is mapped to.
func (t *Tables) Map(p rune) []rune {
	t = t.orNone()
	return charsBy(t.maps, t.book.Maps, p)
}

// Class is the combining class of a code point.
func (t *Tables) Class(p rune) int { return t.orNone().class.Look(p) }

// Parts is what a code point is made of.
func (t *Tables) Parts(p rune) []rune {
	t = t.orNone()
	return charsBy(t.decomp, t.book.Decomp, p)
}

// Pair is what two code points compose to.
func (t *Tables) Pair(a, b rune) (rune, bool) {
	c, ok := t.orNone().pairs[[2]rune{a, b}]
	return c, ok
}

// Bidi is the direction of a code point.
func (t *Tables) Bidi(p rune) int { return t.orNone().bidi.Look(p) }

// Join is how a code point joins.
func (t *Tables) Join(p rune) int { return t.orNone().join.Look(p) }

// Mark tells whether a code point is a mark.
func (t *Tables) Mark(p rune) bool { return t.orNone().marks.Look(p) != 0 }

// Script is the number of a code point's script.
func (t *Tables) Script(p rune) int { return t.orNone().script.Look(p) }

// Name is the name of a script.
func (t *Tables) Name(script int) string { return nameOf(t.orNone().book.Names, script) }

// Like is what a code point is taken for.
func (t *Tables) Like(p rune) []rune {
	t = t.orNone()
	return charsBy(t.like, t.book.Like, p)
}

// Book is the book.
func (t *Tables) Book() api.Book { return copyOf(t.orNone().book) }
