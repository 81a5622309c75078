package joiner

import (
	"math/rand"
	"regexp"
	"slices"
	"strings"
	"testing"

	"postern/api"
	"postern/book"
)

const (
	least = -1 << 31
	most  = 1<<31 - 1
)

// Code points of someBook: one of each joining, viramas of three joinings, and some of other classes; n and j are the non-joiner and the joiner.
const (
	n = 8204
	j = 8205

	u  = 2000
	l  = 2001
	r  = 2002
	d  = 2003
	tr = 2004 // T, which joins nothing itself and is gone over
	c  = 2005

	vu = 3000
	vd = 3001
	vt = 3002
)

// model says what the chapter's words say, by a book's rows and without its tables: each code point is written as three letters, and what may stand ahead and behind is told by patterns.
type model struct{ book api.Book }

// numberOf looks through all rows; what is no code point is in none of them.
func numberOf(rows []api.Value, p rune) int {
	for _, row := range rows {
		if row.From <= p && p <= row.To {
			return row.N
		}
	}
	return 0
}

func (m model) isVirama(p rune) bool { return numberOf(m.book.Class, p) == 9 }

// letters says of each code point which of the two it is, whether it is a virama, and how it joins.
func (m model) letters(label []rune) string {
	var s strings.Builder
	for _, p := range label {
		switch p {
		case n:
			s.WriteByte('n')
		case j:
			s.WriteByte('j')
		default:
			s.WriteByte('x')
		}
		if m.isVirama(p) {
			s.WriteByte('v')
		} else {
			s.WriteByte('-')
		}
		s.WriteByte("ULRDTC"[numberOf(m.book.Join, p)])
	}
	return s.String()
}

var (
	behindVirama = regexp.MustCompile(`v.$`)
	behindLetter = regexp.MustCompile(`[LD](..T)*$`)
	aheadLetter  = regexp.MustCompile(`^(..T)*..[RD]`)
)

func (m model) allowed(label []rune, i int) bool {
	if i < 0 || i >= len(label) {
		return false
	}
	s := m.letters(label)
	ahead, one, behind := s[:3*i], s[3*i], s[3*i+3:]
	switch {
	case one == 'x', behindVirama.MatchString(ahead):
		return true
	case one == 'n':
		return behindLetter.MatchString(ahead) && aheadLetter.MatchString(behind)
	}
	return false
}

// check and all go through the places from the last one.
func (m model) check(label []rune) int {
	at := -1
	for i := range slices.Backward(label) {
		if !m.allowed(label, i) {
			at = i
		}
	}
	return at
}

func (m model) all(label []rune) []int {
	var places []int
	for i, p := range slices.Backward(label) {
		if strings.ContainsRune("\u200c\u200d", p) {
			places = append([]int{i}, places...)
		}
	}
	return places
}

// shapes leaves out what is T, ties each two neighbours that join, and looks at the ties of each.
func (m model) shapes(label []rune) []int {
	var places []int
	for i, p := range label {
		if numberOf(m.book.Join, p) != api.JoinT {
			places = append(places, i)
		}
	}
	ahead, behind := make([]bool, len(label)), make([]bool, len(label))
	for k := range places {
		if k > 0 {
			one, other := places[k-1], places[k]
			tied := strings.IndexByte("LDC", "ULRDTC"[numberOf(m.book.Join, label[one])]) >= 0 && strings.IndexByte("RDC", "ULRDTC"[numberOf(m.book.Join, label[other])]) >= 0
			behind[one], ahead[other] = tied, tied
		}
	}
	shapes := make([]int, len(label))
	for i, p := range label {
		if strings.IndexByte("LRDC", "ULRDTC"[numberOf(m.book.Join, p)]) >= 0 {
			shapes[i] = map[[2]bool]int{{false, false}: 1, {false, true}: 2, {true, true}: 3, {true, false}: 4}[[2]bool{ahead[i], behind[i]}]
		}
	}
	return shapes
}

func (m model) strip(label []rune) []rune {
	var left []rune
	for i, p := range label {
		if !slices.Contains(m.all(label), i) {
			left = append(left, p)
		}
	}
	return left
}

func compiled(t *testing.T, b api.Book) *book.Tables {
	t.Helper()
	x, e := book.Compile(b)
	if e != api.OK {
		t.Fatal(e)
	}
	return x
}

func value(p rune, n int) api.Value { return api.Value{From: p, To: p, N: n} }

// someBook says something of surrogates, of the first and of the last code point, too; of the non-joiner and of the joiner it says nothing.
func someBook() api.Book {
	b := api.Book{
		Class: []api.Value{value(0, 9), {From: vu, To: vt, N: 9}, value(3003, 1), value(3004, 8), value(3005, 10), value(3006, 254), {From: 0xd800, To: 0xd801, N: 9}, value(0x10ffff, 9)},
		Join:  []api.Value{value(0, api.JoinD)},
	}
	for joining := range 6 {
		b.Join = append(b.Join, value(u+rune(joining), joining))
	}
	b.Join = append(b.Join, value(vd, api.JoinD), value(vt, api.JoinT), value(3005, api.JoinT), api.Value{From: 0xd801, To: 0xd802, N: api.JoinD}, value(0xdbff, api.JoinT), value(0xdfff, api.JoinR), value(0x10ffff, api.JoinD))
	return b
}

// withTheTwo is someBook, but the non-joiner and the joiner join as is told, and have a class.
func withTheTwo(nJoins, nClass, jJoins, jClass int) api.Book {
	b := someBook()
	b.Join = withRows(b.Join, nJoins, jJoins)
	b.Class = withRows(b.Class, nClass, jClass)
	return b
}

// withRows has no row where the number is 0, as a row of Class may not have it.
func withRows(rows []api.Value, ofN, ofJ int) []api.Value {
	at := slices.IndexFunc(rows, func(row api.Value) bool { return row.From > j })
	if ofJ != 0 {
		rows = slices.Insert(rows, at, value(j, ofJ))
	}
	if ofN != 0 {
		rows = slices.Insert(rows, at, value(n, ofN))
	}
	return rows
}

// someBooks has the non-joiner and the joiner say all that they may: of each joining, and viramas.
func someBooks() []api.Book {
	books := []api.Book{{}, someBook(), withTheTwo(0, 9, 0, 9), withTheTwo(api.JoinT, 9, api.JoinT, 9), withTheTwo(0, 8, 0, 10)}
	for joining := range 6 {
		books = append(books, withTheTwo(joining, 0, 0, 0), withTheTwo(0, 0, joining, 0), withTheTwo(joining, 0, joining, 0), withTheTwo(joining, 9, joining, 0), withTheTwo(joining, 0, joining, 9))
	}
	return books
}

// somePoints is code points and other runes of which someBook says all that it says, those about them, and those that differ from the two by a little or by what a table may drop.
func somePoints() []rune {
	of := []rune{-1, least, most, 0x110000, 0x110001, n - 1, n, j, j + 1, n - 0x110000, j - 0x110000, n + 0x110000, j + 0x110000, d - 0x110000, d + 0x110000, vd - 0x110000, n + 0x10000, j + 0x10000, -n, -j, 0x0c, 0x0d, 'a', '-', 0xe000}
	for _, row := range slices.Concat(someBook().Join, someBook().Class) {
		of = append(of, row.From-1, row.From, row.To, row.To+1)
	}
	slices.Sort(of)
	return slices.Compact(of)
}

// randomLabel is a label of up to so many of some runes.
func randomLabel(from *rand.Rand, many int, of []rune) []rune {
	label := make([]rune, from.Intn(many+1))
	for i := range label {
		label[i] = of[from.Intn(len(of))]
	}
	return label
}

// lists calls with every list of so many of some; the list is good till the call is back.
func lists[E any](length int, of []E, call func([]E)) {
	list := make([]E, length)
	var fill func(int)
	fill = func(at int) {
		if at == length {
			call(list)
			return
		}
		for _, p := range of {
			list[at] = p
			fill(at + 1)
		}
	}
	fill(0)
}

// isAsModel holds all calls of a label against the model.
func isAsModel(t *testing.T, x *book.Tables, m model, label []rune) {
	t.Helper()
	for i := -2; i < len(label)+2; i++ {
		if got, want := Allowed(x, label, i), m.allowed(label, i); got != want {
			t.Errorf("Allowed(%v, %d): %v", label, i, got)
		}
	}
	if got, want := Check(x, label), m.check(label); got != want {
		t.Errorf("Check(%v): %d, not %d", label, got, want)
	}
	if got, want := All(x, label), m.all(label); !slices.Equal(got, want) {
		t.Errorf("All(%v): %v, not %v", label, got, want)
	}
	if got, want := Shapes(x, label), m.shapes(label); !slices.Equal(got, want) {
		t.Errorf("Shapes(%v): %v, not %v", label, got, want)
	}
	if got, want := Strip(label), m.strip(label); !slices.Equal(got, want) {
		t.Errorf("Strip(%v): %v, not %v", label, got, want)
	}
	for _, p := range label {
		if got, want := Virama(x, p), m.isVirama(p); got != want {
			t.Errorf("Virama(%d): %v", p, got)
		}
	}
}
