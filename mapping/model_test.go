package mapping

import (
	"math/rand"
	"slices"
	"testing"

	"postern/api"
	"postern/book"
	"postern/compose"
)

const (
	least = -1 << 31
	most  = 1<<31 - 1
)

// model says what the chapter's words say, by a book's rows and without its tables, each thing worked out another way than the program does.
type model struct{ book api.Book }

// status looks through all rows, and takes what is no code point as disallowed.
func (m model) status(p rune) int {
	if p < 0 || p > api.MaxPoint {
		return api.StatusDisallowed
	}
	for _, r := range m.book.Maps {
		if r.From <= p && p <= r.To {
			return api.StatusMapped
		}
	}
	for _, r := range m.book.Status {
		if r.From <= p && p <= r.To {
			return r.N
		}
	}
	return api.StatusDisallowed
}

func (m model) kept(p rune) bool {
	s := m.status(p)
	return s == api.StatusValid || s == api.StatusDeviation
}

// piece is a code point and where it came from.
type piece struct {
	p    rune
	from int
}

// pieces lays the whole name down, and then puts what is mapped in the place of what is not to stay, from the end on.
func (m model) pieces(r []rune) []piece {
	l := make([]piece, len(r))
	for i, p := range r {
		l[i] = piece{p, i}
	}
	for i := len(r) - 1; i >= 0; i-- {
		if s := m.status(r[i]); s == api.StatusIgnored || s == api.StatusMapped {
			var instead []piece
			for _, row := range m.book.Maps {
				if row.From <= r[i] && r[i] <= row.To {
					for _, p := range row.Is {
						instead = append(instead, piece{p, i})
					}
				}
			}
			l = slices.Replace(l, i, i+1, instead...)
		}
	}
	return l
}

func (m model) mapped(r []rune) []rune {
	var l []rune
	for _, x := range m.pieces(r) {
		l = append(l, x.p)
	}
	return l
}

func (m model) sources(r []rune) []int {
	var l []int
	for _, x := range m.pieces(r) {
		l = append(l, x.from)
	}
	return l
}

// places is where code points of some statuses stand.
func (m model) places(r []rune, statuses ...int) []int {
	var l []int
	for i := range r {
		if slices.Contains(statuses, m.status(r[i])) {
			l = append(l, i)
		}
	}
	return l
}

func compiled(t *testing.T, b api.Book) *book.Tables {
	t.Helper()
	x, e := book.Compile(b)
	if x == nil || e != api.OK {
		where, _ := book.Check(b)
		t.Fatalf("Compile: %d, %v", e, where)
	}
	return x
}

// row is a row for one code point.
func row(p rune, is ...rune) api.Chars { return api.Chars{From: p, To: p, Is: is} }

// value is a row for one code point.
func value(p rune, n int) api.Value { return api.Value{From: p, To: p, N: n} }

// someBook is a book with all that the chapter tells apart. It may be, and is not sound.
func someBook() api.Book {
	long := []rune{97, 98, 99, 100, 101, 102, 103, 104, 105, 106, 107, 108, 109, 110, 111, 112, 113, 114}
	return api.Book{
		Status: []api.Value{
			{From: 45, To: 46, N: 1}, {From: 48, To: 57, N: 1}, {From: 97, To: 122, N: 1}, value(173, 2), value(183, 1),
			{From: 200, To: 202, N: 2}, {From: 203, To: 204, N: 3}, {From: 205, To: 206, N: 1}, // neighbours of unlike statuses
			value(223, 3), {From: 224, To: 225, N: 1}, {From: 768, To: 769, N: 1}, value(803, 1), //
			value(4352, 1), value(4449, 1), value(4520, 3), {From: 7841, To: 7842, N: 1}, value(44032, 1), //
			{From: 0xd800, To: 0xd801, N: 1}, value(0xd802, 2), value(0xd803, 3), value(0xdfff, 2), // surrogates, of which a book may say something
			value(0x10fffd, 2), value(0x10fffe, 3),
		},
		Maps: []api.Chars{
			row(0, 97),                                                           // the first row, and the first code point
			row(65, 97),                                                          // to one
			row(66, 97, 768), row(67, 768), row(68, 769, 803), row(69, 803, 769), // to what normal form C composes, by itself, with what stands ahead, or in another order
			{From: 70, To: 72, Is: []rune{120, 121}}, // several to several
			row(73, 73),                              // to itself
			row(74, 65), row(75, 173), row(76, 128),  // to what is mapped, ignored, disallowed
			row(77, long...),           //
			row(78, 4352, 4449),        // to jamo
			row(79, 4520),              //
			row(80, 46),                // to the stop
			row(189, 49, 8260, 50),     //
			row(0xd804, 0xe000, 97),    //
			row(0x10ffff, 0x10fffe, 0), // the last code point
		},
		Class:  []api.Value{{From: 768, To: 769, N: 230}, value(803, 220)},
		Decomp: []api.Chars{row(192, 65, 768), row(224, 97, 768), row(225, 97, 769), row(300, 97), row(7841, 97, 803), row(7842, 7841, 769)},
	}
}

// somePoints is code points and other runes of which someBook says all that it says, and those about them.
func somePoints() []rune {
	l := []rune{-1, least, most, 0x110000, 0x110001, 65 - 0x110000, 65 + 0x110000, 300, 301, 0xe000, 192}
	for _, r := range someBook().Status {
		l = append(l, r.From-1, r.From, r.To, r.To+1)
	}
	for _, r := range someBook().Maps {
		l = append(l, r.From-1, r.From, r.To, r.To+1)
	}
	slices.Sort(l)
	return slices.Compact(l)
}

// soundBook is a sound book, where 200 to 219, 900 to 907 and perhaps Hangul are kept beside ASCII as it must be, 300 to 303 are ignored and 310 to 339 are mapped; and what is not disallowed by it.
func soundBook(t *testing.T, r *rand.Rand) (*book.Tables, []rune) {
	t.Helper()
	for {
		b := api.Book{Status: []api.Value{{From: 45, To: 46, N: 1}, {From: 48, To: 57, N: 1}, {From: 97, To: 122, N: 1}, {From: 200, To: 219, N: 1}, {From: 300, To: 303, N: 2}, {From: 900, To: 907, N: 3}}}
		kept := []rune{45, 46, 48, 57, 97, 98, 98, 99, 200, 201, 202, 203, 204, 209, 210, 219, 900, 901, 902, 903, 904, 905, 906, 907}
		if r.Intn(2) == 0 {
			b.Status = append(b.Status, api.Value{From: 4352, To: 4370, N: 1}, api.Value{From: 4449, To: 4469, N: 1}, api.Value{From: 4520, To: 4546, N: 1}, api.Value{From: 44032, To: 55203, N: 1})
			kept = append(kept, 4352, 4370, 4449, 4469, 4520, 4546, 44032, 44033, 55176)
		}
		all := append(slices.Clone(kept), 65, 66, 67, 90, 300, 301, 303)
		for p := rune('A'); p <= 'Z'; p++ {
			b.Maps = append(b.Maps, row(p, p+32))
		}
		for p := rune(310); p < 340; p++ {
			is := make([]rune, 1+r.Intn(3))
			for i := range is {
				is[i] = kept[r.Intn(len(kept))]
			}
			b.Maps = append(b.Maps, row(p, is...))
			all = append(all, p)
		}
		for p := rune(900); p < 908; p++ {
			b.Class = append(b.Class, value(p, 1+int(p-900)/3))
		}
		for p := rune(200); p < 220; p++ {
			switch letter, mark := 97+r.Int31n(3), 900+r.Int31n(8); {
			case p < 204 || r.Intn(3) == 0:
				b.Decomp = append(b.Decomp, row(p, letter, mark))
			case p < 210:
				b.Decomp = append(b.Decomp, row(p, 200+r.Int31n(4), 906+r.Int31n(2)))
			}
		}
		// Of what is mapped there may be a decomposition too, as there is of the sample book's A with a grave accent.
		b.Decomp = append(b.Decomp, row(310, 65, 900), row(311, 66))
		if _, _, e := book.Sound(b); e == api.OK {
			return compiled(t, b), all
		}
	}
}

// randomName is a name of up to so many of some runes.
func randomName(r *rand.Rand, many int, of []rune) []rune {
	l := make([]rune, r.Intn(many+1))
	for i := range l {
		l[i] = of[r.Intn(len(of))]
	}
	return l
}

// lists calls with every list of so many runes of some; the list is good till the call is back.
func lists(length int, of []rune, call func([]rune)) {
	l := make([]rune, length)
	var fill func(int)
	fill = func(at int) {
		if at == length {
			call(l)
			return
		}
		for _, p := range of {
			l[at] = p
			fill(at + 1)
		}
	}
	fill(0)
}

// cuts calls with a list in every way of cutting it.
func cuts(l []rune, call func([][]rune)) {
	if len(l) == 0 {
		call(nil)
		return
	}
	for way := range 1 << (len(l) - 1) {
		var pieces [][]rune
		from := 0
		for i := 1; i < len(l); i++ {
			if way>>(i-1)&1 == 1 {
				pieces = append(pieces, l[from:i])
				from = i
			}
		}
		call(append(pieces, l[from:]))
	}
}

func isList[E comparable](t *testing.T, what string, got []E, want ...E) {
	t.Helper()
	if !slices.Equal(got, want) {
		t.Errorf("%s: %v, not %v", what, got, want)
	}
}

// isAsModel holds all calls that take one name against the model.
func isAsModel(t *testing.T, x *book.Tables, m model, r []rune) {
	t.Helper()
	mapped := m.mapped(r)
	if got := Map(x, r); !slices.Equal(got, mapped) {
		t.Errorf("Map(%v): %v, not %v", r, got, mapped)
	}
	if got, want := Fold(x, r), compose.Normal(x, mapped); !slices.Equal(got, want) {
		t.Errorf("Fold(%v): %v, not %v", r, got, want)
	}
	if got, want := Sources(x, r), m.sources(r); !slices.Equal(got, want) {
		t.Errorf("Sources(%v): %v, not %v", r, got, want)
	}
	if got, want := Disallowed(x, r), m.places(r, api.StatusDisallowed); !slices.Equal(got, want) {
		t.Errorf("Disallowed(%v): %v, not %v", r, got, want)
	}
	if got, want := Deviations(x, r), m.places(r, api.StatusDeviation); !slices.Equal(got, want) {
		t.Errorf("Deviations(%v): %v, not %v", r, got, want)
	}
	if got, want := Changes(x, r), len(m.places(r, api.StatusIgnored, api.StatusMapped)); got != want {
		t.Errorf("Changes(%v): %d, not %d", r, got, want)
	}
	// As the chapter says it: two things are asked.
	if got, want := Closed(x, r...), slices.Equal(mapped, r) && !slices.ContainsFunc(r, func(p rune) bool { return !m.kept(p) }); got != want {
		t.Errorf("Closed(%v): %v", r, got)
	}
}
