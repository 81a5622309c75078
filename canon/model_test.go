package canon

import (
	"math/rand"
	"slices"
	"testing"

	"postern/api"
	"postern/book"
)

const (
	least = -1 << 31
	most  = 1<<31 - 1
)

// model says what the chapter's words say, by a book's rows and without its tables, each thing worked out another way than the program does.
type model struct {
	book api.Book
	jamo map[rune][]rune
}

func modelOf(b api.Book) model { return model{b, allJamo()} }

// allJamo is the jamo of each syllable, counted up one by one instead of reckoned.
func allJamo() map[rune][]rune {
	jamo, s := make(map[rune][]rune), rune(44032)
	for l := rune(4352); l <= 4370; l++ {
		for v := rune(4449); v <= 4469; v++ {
			jamo[s] = []rune{l, v}
			s++
			for t := rune(4520); t <= 4546; t++ {
				jamo[s] = []rune{l, v, t}
				s++
			}
		}
	}
	return jamo
}

func (m model) class(p rune) int {
	for _, r := range m.book.Class {
		if r.From <= p && p <= r.To {
			return r.N
		}
	}
	return 0
}

// parts is what a code point gives way to; nothing, if it stays.
func (m model) parts(p rune) []rune {
	for _, r := range m.book.Decomp {
		if r.From == p {
			return r.Is
		}
	}
	return m.jamo[p]
}

// apart is the full decompositions: the first code point that has parts gives way to them, until none has.
func (m model) apart(l []rune) []rune {
	l = slices.Clone(l)
	for {
		at := slices.IndexFunc(l, func(p rune) bool { return len(m.parts(p)) > 0 })
		if at < 0 {
			return l
		}
		l = slices.Concat(l[:at], m.parts(l[at]), l[at+1:])
	}
}

// order is the canonical order: neighbours that stand wrong change places, until none do.
func (m model) order(l []rune) []rune {
	l = slices.Clone(l)
	for {
		at := m.ordered(l)
		if at < 0 {
			return l
		}
		l[at-1], l[at] = l[at], l[at-1]
	}
}

// ordered is the first place that stands wrong behind the one ahead.
func (m model) ordered(l []rune) int {
	for i := 1; i < len(l); i++ {
		if c := m.class(l[i]); c > 0 && m.class(l[i-1]) > c {
			return i
		}
	}
	return -1
}

func (m model) decompose(l []rune) []rune { return m.order(m.apart(l)) }

// sure is what can't change any more of the normal form D: all ahead of the last code point of class 0.
func (m model) sure(l []rune) []rune {
	d := m.decompose(l)
	for i := len(d) - 1; i >= 0; i-- {
		if m.class(d[i]) == 0 {
			return d[:i]
		}
	}
	return nil
}

func compiled(t *testing.T, b api.Book) *book.Tables {
	t.Helper()
	x, e := book.Compile(b)
	if x == nil || e != api.OK {
		where, _ := book.Check(b)
		t.Fatalf("Compile: %d, %v", e, where)
	}
	return x
}

// row is a row of Decomp.
func row(p rune, is ...rune) api.Chars { return api.Chars{From: p, To: p, Is: is} }

// someBook is a book with all that the chapter tells apart: one part and two, chains, parts that are syllables, marks that are made of marks, letters that are marks as a whole or begin with one.
func someBook() api.Book {
	return api.Book{
		Class: []api.Value{{From: 300, To: 300, N: 7}, {From: 768, To: 789, N: 230}, {From: 795, To: 795, N: 216}, {From: 803, To: 803, N: 220}, {From: 807, To: 807, N: 202}, {From: 836, To: 836, N: 230}, {From: 2364, To: 2364, N: 1}, {From: 0xd800, To: 0xd8ff, N: 254}},
		Decomp: []api.Chars{
			row(192, 65, 768), row(193, 192, 803), row(194, 193, 807), // two parts, in chains by the first one
			row(200, 69, 201), row(201, 202, 768), row(202, 803, 807), // by the second one
			row(210, 211), row(211, 212), row(212, 192), // by single ones
			row(220, 192, 194),       // by both
			row(230, 44032),          // syllables as parts
			row(231, 44033, 768),     //
			row(232, 55203, 44060),   //
			row(233, 231, 803),       // in a chain
			row(234, 4352, 4449),     // jamo as parts
			row(300, 65, 803),        // a class of its own, which its parts do not have
			row(301, 300, 768),       //
			row(302, 768, 65),        // a mark ahead of a letter
			row(836, 776, 769),       // marks alone
			row(837, 836),            //
			row(838, 0xffff, 0xe000), //
			row(0x10ffff, 0x10fffe),  //
		},
		Excluded: []api.Span{{From: 192, To: 192}},
		Marks:    []api.Span{{From: 768, To: 836}},
		Like:     []api.Chars{row(65, 66), row(768, 769)},
		Maps:     []api.Chars{row(66, 98), row(192, 224)},
	}
}

// somePoints is code points and other runes of which someBook says all that it says, and those about them.
func somePoints() []rune {
	l := []rune{0, 64, 65, 66, 69, 768, 769, 776, 789, 790, 795, 796, 803, 807, 2363, 2364, 2365, 4351, 4352, 4370, 4371, 4448, 4449, 4469, 4470, 4519, 4520, 4546, 4547, 44031, 44032, 44033, 44059, 44060, 44061, 55203, 55204, 0xd7ff, 0xd800, 0xd8ff, 0xd900, 0xdfff, 0xe000, 0xffff, 0x10fffe, 0x10ffff, 0x110000, -1, least, most}
	for _, r := range someBook().Decomp {
		l = append(l, r.From)
	}
	return l
}

// randomBook is a book that may be, of few code points: 200 to 219, of which most have parts, and 900 to 909, of which most have a class.
func randomBook(t *testing.T, r *rand.Rand) (api.Book, *book.Tables) {
	t.Helper()
	for {
		var b api.Book
		for p := rune(200); p < 220; p++ {
			if r.Intn(3) == 0 {
				continue
			}
			is := make([]rune, 1+r.Intn(2))
			for i := range is {
				switch r.Intn(8) {
				case 0:
					is[i] = 44032 + r.Int31n(11172)
				case 1, 2, 3:
					is[i] = p + 1 + r.Int31n(220-p)
				default:
					is[i] = 900 + r.Int31n(12)
				}
			}
			b.Decomp = append(b.Decomp, row(p, is...))
		}
		classes := []int{1, 9, 220, 230, 230, 254}
		for p := rune(215); p < 912; p++ {
			if p == 220 {
				p = 900
			}
			if r.Intn(4) > 0 {
				b.Class = append(b.Class, api.Value{From: p, To: p, N: classes[r.Intn(len(classes))]})
			}
		}
		if x, e := book.Compile(b); e == api.OK {
			return b, x
		}
	}
}

// randomList is a list of up to so many runes that randomBook speaks of, and some others.
func randomList(r *rand.Rand, many int) []rune {
	l := make([]rune, r.Intn(many+1))
	for i := range l {
		switch r.Intn(10) {
		case 0, 1, 2:
			l[i] = 200 + r.Int31n(21)
		case 3:
			l[i] = 44030 + r.Int31n(11176)
		case 4:
			l[i] = []rune{-1, 0x110000, least, most, 65, 0xd800, 4352, 4449, 4520}[r.Intn(9)]
		default:
			l[i] = 900 + r.Int31n(12)
		}
	}
	return l
}

// lists calls with every list of so many runes of some; the list is good till the call is back.
func lists(length int, of []rune, call func([]rune)) {
	l := make([]rune, length)
	var fill func(int)
	fill = func(at int) {
		if at == length {
			call(l)
			return
		}
		for _, p := range of {
			l[at] = p
			fill(at + 1)
		}
	}
	fill(0)
}

func isList(t *testing.T, what string, got []rune, want ...rune) {
	t.Helper()
	if !slices.Equal(got, want) {
		t.Errorf("%s: %v, not %v", what, got, want)
	}
}
