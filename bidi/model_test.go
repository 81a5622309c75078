package bidi

import (
	"math/rand"
	"regexp"
	"slices"
	"testing"

	"postern/api"
	"postern/book"
)

const (
	least = -1 << 31
	most  = 1<<31 - 1
)

// Code points of someBook, one of each direction that the rules name, and one of those that they do not.
const (
	l   = 97
	r   = 1488
	al  = 1569
	en  = 48
	es  = 45
	et  = 2005
	an  = 1632
	cs  = 2007
	nsm = 768
	bn  = 2009
	on  = 2010
	ws  = 2013
)

// model says what the chapter's words say, by a book's rows and without its tables: a label is written as letters, a for L, b for R and so on, and each rule is told by the pattern of what breaks it.
type model struct{ book api.Book }

// direction looks through all rows; what is no code point is in none of them.
func (m model) direction(p rune) int {
	for _, row := range m.book.Bidi {
		if row.From <= p && p <= row.To {
			return row.N
		}
	}
	return api.BidiL
}

func (m model) letters(label []rune) string {
	var s []byte
	for _, p := range label {
		s = append(s, 'a'+byte(m.direction(p)))
	}
	return string(s)
}

// L R AL EN ES ET AN CS NSM BN ON and the others are a b c d e f g h i j k and l to w.
var breaks = []*regexp.Regexp{
	regexp.MustCompile(`^[^abc]`),
	regexp.MustCompile(`^[bc].*[al-w]`),
	regexp.MustCompile(`^[bc].*[^bcdgi]i*$`),
	regexp.MustCompile(`^[bc].*(d.*g|g.*d)`),
	regexp.MustCompile(`^a.*[bcgl-w]`),
	regexp.MustCompile(`^a.*[^adi]i*$`),
}

func (m model) rules(label []rune) []int {
	var broken []int
	for i, pattern := range breaks {
		if pattern.MatchString(m.letters(label)) {
			broken = append(broken, i+1)
		}
	}
	return broken
}

var (
	isRight  = regexp.MustCompile(`^[bc]`)
	isStrong = regexp.MustCompile(`[bcg]`)
)

// name goes from the last label to the first one, and what it finds further ahead stands for what it found.
func (m model) name(labels [][]rune) api.Bidi {
	var all string
	var told api.Bidi
	for i, label := range slices.Backward(labels) {
		all += m.letters(label)
		if broken := m.rules(label); len(broken) != 0 {
			told = api.Bidi{Label: i, Rule: slices.Min(broken)}
		}
	}
	if !isStrong.MatchString(all) {
		return api.Bidi{}
	}
	told.Bidi = true
	return told
}

func compiled(t *testing.T, b api.Book) *book.Tables {
	t.Helper()
	x, e := book.Compile(b)
	if e != api.OK {
		t.Fatal(e)
	}
	return x
}

func value(p rune, n int) api.Value { return api.Value{From: p, To: p, N: n} }

// someBook has a row of each direction from 2000 on, beside those of the chapter's examples; of surrogates, of the first and of the last code point it says something too.
func someBook() api.Book {
	b := api.Book{Bidi: []api.Value{
		value(0, api.BidiAN),
		value(45, api.BidiES), {From: 48, To: 57, N: api.BidiEN}, {From: 768, To: 879, N: api.BidiNSM}, {From: 1488, To: 1514, N: api.BidiR}, {From: 1569, To: 1610, N: api.BidiAL}, {From: 1632, To: 1641, N: api.BidiAN},
	}}
	for n := range 23 {
		b.Bidi = append(b.Bidi, value(2000+rune(n), n))
	}
	b.Bidi = append(b.Bidi, api.Value{From: 0xd800, To: 0xd801, N: api.BidiR}, value(0xdbff, api.BidiNSM), value(0xdfff, api.BidiWS), value(0x10ffff, api.BidiAL))
	return b
}

// somePoints is code points and other runes of which someBook says all that it says, and those about them.
func somePoints() []rune {
	of := []rune{-1, least, most, 0x110000, 0x110001, r - 0x110000, r + 0x110000, l, 0xe000}
	for _, row := range someBook().Bidi {
		of = append(of, row.From-1, row.From, row.To, row.To+1)
	}
	slices.Sort(of)
	return slices.Compact(of)
}

// randomLabel is a label of up to so many of some runes.
func randomLabel(from *rand.Rand, many int, of []rune) []rune {
	label := make([]rune, from.Intn(many+1))
	for i := range label {
		label[i] = of[from.Intn(len(of))]
	}
	return label
}

// lists calls with every list of so many of some; the list is good till the call is back.
func lists[E any](length int, of []E, call func([]E)) {
	list := make([]E, length)
	var fill func(int)
	fill = func(at int) {
		if at == length {
			call(list)
			return
		}
		for _, p := range of {
			list[at] = p
			fill(at + 1)
		}
	}
	fill(0)
}

// isAsModel holds all calls that take one label against the model.
func isAsModel(t *testing.T, x *book.Tables, m model, label []rune) {
	t.Helper()
	want := m.rules(label)
	if got := Rules(x, label); !slices.Equal(got, want) {
		t.Errorf("Rules(%v): %v, not %v", label, got, want)
	}
	first := 0
	if len(want) != 0 {
		first = want[0]
	}
	if got := Check(x, label); got != first {
		t.Errorf("Check(%v): %d, not %d", label, got, first)
	}
	if got, want := Right(x, label), isRight.MatchString(m.letters(label)); got != want {
		t.Errorf("Right(%v): %v", label, got)
	}
	if got, want := Strong(x, label), isStrong.MatchString(m.letters(label)); got != want {
		t.Errorf("Strong(%v): %v", label, got)
	}
}

func isName(t *testing.T, x *book.Tables, labels [][]rune, want api.Bidi) {
	t.Helper()
	if got := Name(x, labels); got != want {
		t.Errorf("Name(%v): %v, not %v", labels, got, want)
	}
}
