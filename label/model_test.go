package label

import (
	"math/rand"
	"regexp"
	"slices"
	"strconv"
	"strings"
	"testing"

	"postern/api"
	"postern/book"
	"postern/compose"
	"postern/joiner"
	"postern/puny"
)

const (
	least = -1 << 31
	most  = 1<<31 - 1
)

// model says what the chapter's words say: of status and marks by a book's rows, of stops, hyphens and the prefix by what is written of a label, and of the layers below by other calls of theirs than the program asks.
type model struct {
	book   api.Book
	tables *book.Tables
}

func modelOf(t *testing.T, b api.Book) model {
	t.Helper()
	x, e := book.Compile(b)
	if e != api.OK {
		where, _ := book.Check(b)
		t.Fatalf("Compile: %d, %v", e, where)
	}
	return model{b, x}
}

// textOf writes each code point as a number, whatever it is.
func textOf(l []rune) string {
	var s strings.Builder
	for _, p := range l {
		s.WriteString("<" + strconv.Itoa(int(p)) + ">")
	}
	return s.String()
}

// lettersOf writes each code point as one byte: itself, if it is a hyphen.
func lettersOf(l []rune) string {
	letters := make([]byte, len(l))
	for i, p := range l {
		letters[i] = 'x'
		if p == 45 {
			letters[i] = '-'
		}
	}
	return string(letters)
}

const (
	theStop   = "<46>"
	thePrefix = "<120><110><45><45>"
)

var (
	hyphensInside = regexp.MustCompile(`^..--`)
	hyphensAtEnds = regexp.MustCompile(`^-|-$`)
)

func (m model) coded(l []rune) bool { return strings.HasPrefix(textOf(l), thePrefix) }

// kept looks through all rows; what is no code point is in none of them.
func (m model) kept(p rune) bool {
	return slices.ContainsFunc(m.book.Status, func(row api.Value) bool {
		return row.From <= p && p <= row.To && (row.N == api.StatusValid || row.N == api.StatusDeviation)
	})
}

func (m model) mark(p rune) bool {
	return slices.ContainsFunc(m.book.Marks, func(row api.Span) bool { return row.From <= p && p <= row.To })
}

// faults is all faults of what a label says, from the last one.
func (m model) faults(l []rune) []int {
	var faults []int
	add := func(fault int, is bool) {
		if is {
			faults = append(faults, fault)
		}
	}
	refused, odd := false, false
	for i, p := range l {
		refused = refused || !joiner.Allowed(m.tables, l, i)
		odd = odd || !m.kept(p)
	}
	add(6, refused)
	add(5, odd)
	add(4, len(l) > 0 && m.mark(l[0]))
	add(3, strings.Contains(textOf(l), theStop))
	add(2, m.coded(l))
	add(1, textOf(compose.Normal(m.tables, l)) != textOf(l))
	slices.Sort(faults)
	return faults
}

// isPlain holds how long the text of a label is in UTF-8: what is beyond ASCII, or is no scalar value, takes more than one byte.
func isPlain(l []rune) bool { return len(string(l)) == len(l) }

func (m model) read(l []rune) api.Label {
	said := api.Label{Says: l, Coded: m.coded(l)}
	if !said.Coded {
		said.Fault = append(m.faults(l), 0)[0]
		return said
	}
	if !isPlain(l) {
		said.Fault = 7
		return said
	}
	says, _, e := puny.Decode(strings.TrimPrefix(string(l), "xn--"))
	if e != api.OK {
		said.Fault = 8
		return said
	}
	said.Says = says
	if isPlain(says) {
		said.Fault = 9
	} else {
		said.Fault = append(m.faults(says), 0)[0]
	}
	return said
}

func (m model) ascii(l []rune) (string, int, api.Errno) {
	for i, p := range l {
		if p < 0 || p > 1114111 || 55296 <= p && p <= 57343 {
			return "", i, api.ErrScalar
		}
	}
	if isPlain(l) {
		return string(l), 0, api.OK
	}
	s, _, e := puny.EncodeBy(puny.Usual(), l)
	if e != api.OK {
		return "", 0, api.ErrPuny
	}
	return "xn--" + s, 0, api.OK
}

func value(p rune, n int) api.Value { return api.Value{From: p, To: p, N: n} }

// Code points of someBook.
const (
	bee     = 98
	great   = 65   // mapped, and so not kept
	soft    = 173  // ignored, and so not kept
	em      = 109  // a mark in ASCII
	grave   = 768  // a mark, which goes into an a ahead of it
	aGrave  = 224  // an a and a grave
	udia    = 252  // kept, and nothing else
	virama  = 2381 // a mark, behind which both joiners may stand
	beh     = 1576 // joins on both sides
	njoiner = 8204
	zjoiner = 8205
)

// someBook has what each of the faults asks for: with it each label of kept letters that breaks no rule is valid, the prefix and the stop among them, and so are a surrogate, and the first and the last code point.
func someBook() api.Book {
	return api.Book{
		Status: []api.Value{{From: 0, To: 64, N: api.StatusValid}, {From: 97, To: 127, N: api.StatusValid}, value(soft, api.StatusIgnored), value(223, api.StatusDeviation), value(aGrave, api.StatusValid), value(udia, api.StatusValid), value(grave, api.StatusValid), value(beh, api.StatusValid), value(virama, api.StatusValid), {From: njoiner, To: zjoiner, N: api.StatusDeviation}, {From: 0xd800, To: 0xd801, N: api.StatusValid}, value(0x10ffff, api.StatusValid)},
		Maps:   []api.Chars{{From: great, To: great, Is: []rune{97}}},
		Class:  []api.Value{value(grave, 230), value(virama, 9)},
		Decomp: []api.Chars{{From: aGrave, To: aGrave, Is: []rune{97, grave}}},
		Join:   []api.Value{value(beh, api.JoinD)},
		Marks:  []api.Span{{From: em, To: em}, {From: grave, To: grave}, {From: virama, To: virama}, {From: 0xd801, To: 0xd802}},
	}
}

// withMarkedPrefix is someBook, but the first letter of the prefix is a mark.
func withMarkedPrefix() api.Book {
	b := someBook()
	b.Marks = slices.Insert(b.Marks, 1, api.Span{From: 'x', To: 'x'})
	return b
}

func someBooks() []api.Book {
	return []api.Book{{}, someBook(), withMarkedPrefix(), {Status: []api.Value{{From: 0, To: 0x10ffff, N: api.StatusValid}}}, {Marks: []api.Span{{From: 0, To: 0x10ffff}}, Class: []api.Value{{From: 0, To: 4000, N: 9}}}}
}

// somePoints is code points and other runes of which someBook says all that it says, and those about them.
func somePoints() []rune {
	b := someBook()
	of := []rune{-1, least, most, 0x110000, 'x', 'n', '-', '.', 'X', 'N', 45 - 128, 46 + 256, 46 + 0x10000, 46 + 0x110000, 45 + 0x110000, 97 - 0x110000, 0x3002, 0xff0d, 0x2010, 0xdfff, 0xe000}
	for _, row := range slices.Concat(b.Status, b.Class, b.Join) {
		of = append(of, row.From-1, row.From, row.To, row.To+1)
	}
	for _, row := range b.Marks {
		of = append(of, row.From-1, row.From, row.To, row.To+1)
	}
	slices.Sort(of)
	return slices.Compact(of)
}

// randomLabel is a label of up to so many of some runes.
func randomLabel(from *rand.Rand, many int, of []rune) []rune {
	label := make([]rune, from.Intn(many+1))
	for i := range label {
		label[i] = of[from.Intn(len(of))]
	}
	return label
}

// lists calls with every list of so many of some; the list is good till the call is back.
func lists[E any](length int, of []E, call func([]E)) {
	list := make([]E, length)
	var fill func(int)
	fill = func(at int) {
		if at == length {
			call(list)
			return
		}
		for _, p := range of {
			list[at] = p
			fill(at + 1)
		}
	}
	fill(0)
}

// isAsModel holds all calls of a label against the model.
func isAsModel(t *testing.T, m model, l []rune) {
	t.Helper()
	want := m.faults(l)
	if got := Faults(m.tables, l); !slices.Equal(got, want) {
		t.Errorf("Faults(%v): %v, not %v", l, got, want)
	}
	if got := Valid(m.tables, l); got != (len(want) == 0) {
		t.Errorf("Valid(%v): %v, with %v", l, got, want)
	}
	isRead(t, m.tables, l, m.read(l))
	s, at, e := m.ascii(l)
	isCoded(t, l, s, at, e)
	isCut(t, l)
	if got := Coded(l); got != m.coded(l) {
		t.Errorf("Coded(%v): %v", l, got)
	}
	inside, ends := hyphensInside.MatchString(lettersOf(l)), hyphensAtEnds.MatchString(lettersOf(l))
	if a, b := Hyphens(l); a != inside || b != ends {
		t.Errorf("Hyphens(%v): %v, %v", l, a, b)
	}
}

// isRead holds Read against what it is to say.
func isRead(t *testing.T, x *book.Tables, l []rune, want api.Label) {
	t.Helper()
	got := Read(x, l)
	if !slices.Equal(got.Says, want.Says) || got.Coded != want.Coded || got.Fault != want.Fault {
		t.Errorf("Read(%v): %v, not %v", l, got, want)
	}
}

// isCoded holds ASCII against what it is to say.
func isCoded(t *testing.T, l []rune, s string, at int, e api.Errno) {
	t.Helper()
	if got, place, err := ASCII(l); got != s || place != at || err != e {
		t.Errorf("ASCII(%v): %q, %d, %d, not %q, %d, %d", l, got, place, err, s, at, e)
	}
}

// isCut holds Split of a name, and Join of its labels, against the name as it is written.
func isCut(t *testing.T, name []rune) {
	t.Helper()
	labels := Split(name)
	var texts []string
	for _, l := range labels {
		texts = append(texts, textOf(l))
	}
	if want := strings.Split(textOf(name), theStop); !slices.Equal(texts, want) {
		t.Errorf("Split(%v): %v, not %v", name, texts, want)
	}
	if got := Join(labels); !slices.Equal(got, name) {
		t.Errorf("Join(%v): %v", labels, got)
	}
}
