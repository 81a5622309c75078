package mapping

import (
	"fmt"
	"math/rand"
	"slices"
	"testing"

	"postern/api"
	"postern/book"
)

// checkPlaces holds Place and Count of all that a Mapper was fed against what it should tell: each code point that came out, and those about.
func checkPlaces(t *testing.T, what string, m *Mapper, fed int, sources []int) {
	t.Helper()
	if in, out := m.Count(); in != fed || out != len(sources) {
		t.Errorf("%s: Count: %d, %d, not %d, %d", what, in, out, fed, len(sources))
	}
	for i, want := range sources {
		if at, ok := m.Place(i); at != want || !ok {
			t.Errorf("%s: Place(%d): %d, %v, not %d", what, i, at, ok, want)
		}
	}
	for _, i := range []int{-1, len(sources), len(sources) + 1, len(sources) + 2, -len(sources) - 1, 1 << 32, -1 << 63, 1<<63 - 1} {
		if at, ok := m.Place(i); at != 0 || ok {
			t.Errorf("%s: Place(%d): %d, %v", what, i, at, ok)
		}
	}
}

// checkFed feeds a new Mapper in pieces, and holds what each of them told, and the places behind it, against the model's whole name.
func checkFed(t *testing.T, x *book.Tables, m model, pieces [][]rune) {
	t.Helper()
	mapper := NewMapper(x)
	checkPlaces(t, "fed nothing", mapper, 0, nil)
	var fed, told []rune
	for i, piece := range pieces {
		what := fmt.Sprintf("%v, behind the piece %d", pieces, i)
		isList(t, what, mapper.Feed(piece), m.mapped(piece)...)
		fed = append(fed, piece...)
		told = append(told, m.mapped(piece)...)
		checkPlaces(t, what, mapper, len(fed), m.sources(fed))
	}
	isList(t, fmt.Sprintf("%v, in all", pieces), told, m.mapped(fed)...)
}

// Promise 15.3: a Mapper fed nothing, in one piece, in several, with empty pieces, by hand.
func TestMapperStepByStep(t *testing.T) {
	m := NewMapper(compiled(t, someBook()))
	checkPlaces(t, "new", m, 0, nil)
	var sources []int
	for _, s := range []struct {
		feed, want []rune
		fed        int
		more       []int
	}{
		{nil, nil, 0, nil}, {[]rune{}, nil, 0, nil},
		{[]rune{173}, nil, 1, nil}, {[]rune{65}, []rune{97}, 2, []int{1}}, {[]rune{}, nil, 2, nil},
		{[]rune{173, 189, 98}, []rune{49, 8260, 50, 98}, 5, []int{3, 3, 3, 4}}, {nil, nil, 5, nil}, {[]rune{200, 201}, nil, 7, nil},
		// What comes out is not composed, within a piece or between two.
		{[]rune{66}, []rune{97, 768}, 8, []int{7, 7}}, {[]rune{803}, []rune{803}, 9, []int{8}},
		{[]rune{128, -1, 223, most}, []rune{128, -1, 223, most}, 13, []int{9, 10, 11, 12}},
		{[]rune{70, 70}, []rune{120, 121, 120, 121}, 15, []int{13, 13, 14, 14}}, {[]rune{74}, []rune{65}, 16, []int{15}},
	} {
		what := fmt.Sprintf("Feed(%v)", s.feed)
		isList(t, what, m.Feed(s.feed), s.want...)
		sources = append(sources, s.more...)
		checkPlaces(t, what, m, s.fed, sources)
	}
}

// Promise 15.3: every short name in every way of cutting it.
func TestMapperHoweverCut(t *testing.T) {
	b := someBook()
	x, m := compiled(t, b), model{b}
	for length := range 5 {
		lists(length, []rune{97, 65, 66, 173, 223, 189, -1}, func(r []rune) {
			cuts(r, func(pieces [][]rune) { checkFed(t, x, m, pieces) })
		})
	}
	for _, r := range [][]rune{{173, 65, 77, 128, 200, 70, 0, 97}, {0x10ffff, 0xd802, 0xd804, least, 75, 76, 173, 78}, {173, 200, 201, 173, 65}, {97, 98, 99, 173, 173}} {
		cuts(r, func(pieces [][]rune) { checkFed(t, x, m, pieces) })
		cuts(r, func(pieces [][]rune) {
			between := [][]rune{nil, {}}
			for _, piece := range pieces {
				between = append(between, piece, nil, []rune{})
			}
			checkFed(t, x, m, between)
		})
	}
}

// Promise 15.3: names of all kinds in random pieces.
func TestMapperOfMany(t *testing.T) {
	b := someBook()
	x, m, of := compiled(t, b), model{b}, somePoints()
	r := rand.New(rand.NewSource(154))
	for range 500 {
		var pieces [][]rune
		for range r.Intn(8) {
			pieces = append(pieces, randomName(r, 6, of))
		}
		checkFed(t, x, m, pieces)
	}
}

// Rule R5: two Mappers in turns, of the same tables and of others, have nothing to do with each other.
func TestMappersAreApart(t *testing.T) {
	x := compiled(t, someBook())
	a, b, c := NewMapper(x), NewMapper(x), NewMapper(compiled(t, api.Book{Maps: []api.Chars{row(97, 65, 66)}}))
	isList(t, "a", a.Feed([]rune{65, 173}), 97)
	isList(t, "c", c.Feed([]rune{97}), 65, 66)
	isList(t, "b", b.Feed([]rune{173, 173, 70}), 120, 121)
	isList(t, "a", a.Feed([]rune{189}), 49, 8260, 50)
	checkPlaces(t, "b", b, 3, []int{2, 2})
	isList(t, "c", c.Feed([]rune{65, 173}), 65, 173)
	checkPlaces(t, "a", a, 3, []int{0, 2, 2, 2})
	isList(t, "b", b.Feed([]rune{65}), 97)
	isList(t, "a", a.Feed(nil))
	checkPlaces(t, "a", a, 3, []int{0, 2, 2, 2})
	checkPlaces(t, "b", b, 4, []int{2, 2, 3})
	checkPlaces(t, "c", c, 3, []int{0, 0, 1, 2})
}

// Promise 15.3: on a nil Mapper Feed nothing; Place 0, false; Count 0, 0.
func TestNilMapper(t *testing.T) {
	var m *Mapper
	for _, r := range [][]rune{nil, {}, {97}, {65, 173, 189}, {-1}} {
		isList(t, "Feed", m.Feed(r))
		checkPlaces(t, "a nil Mapper", m, 0, nil)
		if at, ok := m.Place(0); at != 0 || ok {
			t.Errorf("Place(0): %d, %v", at, ok)
		}
	}
}

// Promise 15.3: a Mapper of nil tables, of tables without rows, and one that was not made.
func TestMapperWithoutRows(t *testing.T) {
	for _, x := range []*book.Tables{nil, compiled(t, api.Book{}), new(book.Tables)} {
		if NewMapper(x) == nil {
			t.Fatal("no Mapper")
		}
		cuts([]rune{65, 173, 189, -1, 0x10ffff, 97}, func(pieces [][]rune) { checkFed(t, x, model{}, pieces) })
	}
	var m Mapper
	isList(t, "Feed", m.Feed([]rune{65, 173}), 65, 173)
	checkPlaces(t, "the zero Mapper", &m, 2, []int{0, 1})
}

// Rule R1: many short pieces: it should take no longer for each piece the more of them came ahead.
func TestMapperOfManyPieces(t *testing.T) {
	const many = 1 << 18
	m := NewMapper(compiled(t, someBook()))
	for i := range many {
		told := slices.Concat(m.Feed([]rune{173}), m.Feed([]rune{66}), m.Feed([]rune{97}))
		isList(t, "told", told, 97, 768, 97)
		at, ok := m.Place(3*i + 1)
		if last, is := m.Place(3*i + 2); at != 3*i+1 || last != 3*i+2 || !ok || !is {
			t.Fatalf("Place: %d, %v, %d, %v", at, ok, last, is)
		}
	}
	if in, out := m.Count(); in != 3*many || out != 3*many {
		t.Errorf("Count: %d, %d", in, out)
	}
	if at, ok := m.Place(0); at != 1 || !ok {
		t.Errorf("Place(0): %d, %v", at, ok)
	}
}
