package compose

import (
	"math/rand"
	"slices"
	"sync"
	"testing"

	"postern/api"
	"postern/book"
)

const (
	least = -1 << 31
	most  = 1<<31 - 1
)

// model says what the chapter's words say, by a book's rows and without its tables, each thing worked out another way than the program does.
type model struct {
	book api.Book
	hangul
}

// hangul is the jamo of each syllable, what each pair of Hangul composes to, and the second ones of these pairs.
type hangul struct {
	jamo      map[rune][]rune
	syllables map[[2]rune]rune
	seconds   map[rune]bool
}

var allHangul = sync.OnceValue(countHangul)

// countHangul counts the syllables up one by one, instead of reckoning.
func countHangul() hangul {
	h, s := hangul{make(map[rune][]rune), make(map[[2]rune]rune), make(map[rune]bool)}, rune(44032)
	for l := rune(4352); l <= 4370; l++ {
		for v := rune(4449); v <= 4469; v++ {
			two := s
			h.jamo[s], h.syllables[[2]rune{l, v}], h.seconds[v] = []rune{l, v}, s, true
			s++
			for t := rune(4520); t <= 4546; t++ {
				h.jamo[s], h.syllables[[2]rune{two, t}], h.seconds[t] = []rune{l, v, t}, s, true
				s++
			}
		}
	}
	return h
}

func modelOf(b api.Book) model { return model{b, allHangul()} }

func (m model) class(p rune) int {
	for _, r := range m.book.Class {
		if r.From <= p && p <= r.To {
			return r.N
		}
	}
	return 0
}

func (m model) kept(p rune) bool {
	for _, r := range m.book.Status {
		if r.From <= p && p <= r.To {
			return r.N == api.StatusValid || r.N == api.StatusDeviation
		}
	}
	return false
}

// parts is what a code point gives way to; nothing, if it stays.
func (m model) parts(p rune) []rune {
	for _, r := range m.book.Decomp {
		if r.From == p {
			return r.Is
		}
	}
	return m.jamo[p]
}

// decompose is the normal form D: the first code point that has parts gives way to them, until none has; then neighbours that stand wrong change places, until none do.
func (m model) decompose(l []rune) []rune {
	l = slices.Clone(l)
	for {
		at := slices.IndexFunc(l, func(p rune) bool { return len(m.parts(p)) > 0 })
		if at < 0 {
			break
		}
		l = slices.Concat(l[:at], m.parts(l[at]), l[at+1:])
	}
	for {
		at := m.wrong(l)
		if at < 0 {
			return l
		}
		l[at-1], l[at] = l[at], l[at-1]
	}
}

// wrong is the first place whose class is not 0 and below that of the one ahead; -1: there is none.
func (m model) wrong(l []rune) int {
	for i := 1; i < len(l); i++ {
		if c := m.class(l[i]); c > 0 && m.class(l[i-1]) > c {
			return i
		}
	}
	return -1
}

// composes tells whether the parts of a row are a pair that composes to its code point.
func (m model) composes(r api.Chars) bool {
	excluded := slices.ContainsFunc(m.book.Excluded, func(x api.Span) bool { return x.From <= r.From && r.From <= x.To })
	return len(r.Is) == 2 && !excluded && m.class(r.From) == 0 && m.class(r.Is[0]) == 0
}

func (m model) pair(a, b rune) (rune, bool) {
	if s, ok := m.syllables[[2]rune{a, b}]; ok {
		return s, true
	}
	for _, r := range m.book.Decomp {
		if m.composes(r) && r.Is[0] == a && r.Is[1] == b {
			return r.From, true
		}
	}
	return 0, false
}

// compose looks back, at each code point, through all that came out.
func (m model) compose(l []rune) []rune {
	var out []rune
	for _, c := range l {
		starter, blocked := len(out)-1, false
		for starter >= 0 && m.class(out[starter]) != 0 {
			blocked = blocked || m.class(out[starter]) >= m.class(c)
			starter--
		}
		if starter >= 0 && !blocked {
			if both, ok := m.pair(out[starter], c); ok {
				out[starter] = both
				continue
			}
		}
		out = append(out, c)
	}
	return out
}

func (m model) normal(l []rune) []rune { return m.compose(m.decompose(l)) }

// joins tells whether the first code point of a decomposition is the second one of a pair, by the book or of Hangul.
func (m model) joins(p rune) bool {
	first := m.decompose([]rune{p})[0]
	return m.seconds[first] || slices.ContainsFunc(m.book.Decomp, func(r api.Chars) bool { return m.composes(r) && r.Is[1] == first })
}

func (m model) quick(l []rune) int {
	changed := slices.ContainsFunc(l, func(p rune) bool { return !slices.Equal(m.normal([]rune{p}), []rune{p}) })
	switch {
	case m.wrong(l) >= 0 || changed:
		return api.QuickNo
	case slices.ContainsFunc(l, m.joins):
		return api.QuickMaybe
	}
	return api.QuickYes
}

// pieces is a name, cut where it can be.
func (m model) pieces(l []rune) [][]rune {
	var out [][]rune
	for i, p := range l {
		if i > 0 && (m.class(m.decompose([]rune{p})[0]) != 0 || m.joins(p)) {
			last := len(out) - 1
			out[last] = append(out[last], p)
		} else {
			out = append(out, []rune{p})
		}
	}
	return out
}

func compiled(t *testing.T, b api.Book) *book.Tables {
	t.Helper()
	x, e := book.Compile(b)
	if x == nil || e != api.OK {
		where, _ := book.Check(b)
		t.Fatalf("Compile: %d, %v", e, where)
	}
	return x
}

// row is a row of Decomp.
func row(p rune, is ...rune) api.Chars { return api.Chars{From: p, To: p, Is: is} }

// value is a row for one code point.
func value(p rune, n int) api.Value { return api.Value{From: p, To: p, N: n} }

// someBook is a book with all that the chapter tells apart. Of class 230 are 768 to 789, of 220 is 803, of 216 is 795, of 202 is 807, of 7 is 2364.
func someBook() api.Book {
	return api.Book{
		Class: []api.Value{value(300, 7), value(311, 9), {From: 768, To: 789, N: 230}, value(795, 216), value(803, 220), value(807, 202), value(2364, 7), {From: 0xd800, To: 0xd8ff, N: 254}},
		Decomp: []api.Chars{
			row(192, 65, 768), row(193, 65, 769), // one starter, several marks
			row(194, 192, 803),                   // its marks stand in another order than the canonical one, so that its normal form C is 197
			row(195, 65, 807), row(196, 65, 803), //
			row(197, 196, 768), row(198, 192, 769), row(199, 197, 769), // chains, marks of one class among them
			row(200, 69, 768), row(201, 69, 803), // the first one is excluded
			row(203, 201, 807),           // a mark of a lesser class behind one of a greater class
			row(210, 192), row(211, 768), // single parts
			row(212, 803, 807), row(213, 776, 795), row(214, 768, 66), // what begins with a mark
			row(220, 70, 71), row(221, 71), row(222, 71, 768), // a second one of class 0
			row(223, 70, 222),                     // a second one with parts
			row(224, 72, 73),                      // a second one of an excluded pair alone
			row(225, 192, 71), row(226, 220, 768), // class 0 behind a mark that went in, and the other way about
			row(230, 44032), row(231, 44033, 768), // syllables as parts
			row(232, 4353, 4449),                     // what Hangul goes ahead of
			row(233, 44032, 4520),                    //
			row(234, 4352, 4519),                     // what stands beside Hangul's pairs
			row(235, 44033, 4520),                    //
			row(236, 65, 4449),                       //
			row(237, 4352, 4470),                     //
			row(238, 4449, 768), row(239, 4520, 768), // jamo as first ones
			row(240, 55204, 4521),          //
			row(300, 65, 795),              // a class of its own
			row(310, 311, 768),             // a class of the first one
			row(0x1f600, 0x1f601, 0x1f602), //
			row(0x10ffff, 0x10fffe),        //
		},
		Excluded: []api.Span{{From: 200, To: 200}, {From: 224, To: 224}},
		Like:     []api.Chars{row(65, 66), row(768, 769)},
		Maps:     []api.Chars{row(66, 98), row(192, 224)},
	}
}

// somePoints is code points and other runes of which someBook says all that it says, and those about them.
func somePoints() []rune {
	l := []rune{0, 64, 65, 66, 69, 70, 71, 72, 73, 311, 767, 768, 769, 776, 789, 790, 795, 796, 803, 807, 2364, 2365, 4351, 4352, 4353, 4370, 4371, 4448, 4449, 4469, 4470, 4519, 4520, 4521, 4546, 4547, 44031, 44032, 44033, 44059, 44060, 44061, 55176, 55203, 55204, 0xd7ff, 0xd800, 0xd8ff, 0xd900, 0xdfff, 0xe000, 0xffff, 0x1f601, 0x1f602, 0x10fffe, 0x110000, -1, least, most}
	for _, r := range someBook().Decomp {
		l = append(l, r.From)
	}
	return l
}

// randomBook is a book that may be, of few code points: 200 to 229, of which most have parts, 900 to 911, of which most have a class, and some of Hangul.
func randomBook(t *testing.T, r *rand.Rand) (api.Book, *book.Tables) {
	t.Helper()
	for {
		var b api.Book
		for p := rune(200); p < 230; p++ {
			if r.Intn(4) > 0 {
				b.Decomp = append(b.Decomp, row(p, randomParts(r, p)...))
			}
			if r.Intn(12) == 0 {
				b.Excluded = append(b.Excluded, api.Span{From: p, To: p})
			}
			if r.Intn(15) == 0 {
				b.Class = append(b.Class, value(p, 1+r.Intn(254)))
			}
		}
		for p := rune(900); p < 912; p++ {
			if classes := []int{0, 0, 1, 220, 230, 230, 230, 254}; r.Intn(8) > 0 {
				if n := classes[r.Intn(len(classes))]; n > 0 {
					b.Class = append(b.Class, value(p, n))
				}
			}
		}
		if x, e := book.Compile(b); e == api.OK {
			return b, x
		}
	}
}

// randomParts is parts of a code point, as a rule a letter above it and a mark.
func randomParts(r *rand.Rand, p rune) []rune {
	letter, mark := min(p+1+r.Int31n(12), 232), 900+r.Int31n(12)
	switch r.Intn(12) {
	case 0:
		return []rune{letter}
	case 1:
		return []rune{mark, letter}
	case 2:
		return []rune{mark, 900 + r.Int31n(12)}
	case 3:
		return []rune{randomHangul(r), mark}
	case 4:
		return []rune{randomHangul(r), randomHangul(r)}
	case 5:
		return []rune{letter, randomHangul(r)}
	case 6:
		return []rune{letter, min(p+1+r.Int31n(12), 232)}
	}
	return []rune{letter, mark}
}

// randomHangul is one of few of Hangul, or of what stands beside.
func randomHangul(r *rand.Rand) rune {
	return []rune{4352, 4353, 4370, 4449, 4450, 4469, 4520, 4521, 4546, 44032, 44033, 44060, 55176, 55203, 4519, 4470}[r.Intn(16)]
}

// randomName is a name of up to so many runes that randomBook speaks of, and some others.
func randomName(r *rand.Rand, many int) []rune {
	l := make([]rune, r.Intn(many+1))
	for i := range l {
		switch r.Intn(10) {
		case 0, 1, 2:
			l[i] = 200 + r.Int31n(33)
		case 3, 4:
			l[i] = randomHangul(r)
		case 5:
			l[i] = []rune{-1, 0x110000, least, most, 65, 0xd800}[r.Intn(6)]
		default:
			l[i] = 900 + r.Int31n(12)
		}
	}
	return l
}

// soundBook is a sound book: what is kept are ASCII as it must be, 200 to 219, some of 900 to 911, and all of Hangul or none of it; 220 to 229 have parts too, and are not kept.
func soundBook(t *testing.T, r *rand.Rand) (api.Book, *book.Tables) {
	t.Helper()
	for {
		b := api.Book{Status: []api.Value{{From: 45, To: 46, N: 1}, {From: 48, To: 57, N: 1}, {From: 97, To: 122, N: 1}, {From: 200, To: 219, N: 1}, {From: 900, To: 907, N: 3}}}
		for p := rune('A'); p <= 'Z'; p++ {
			b.Maps = append(b.Maps, row(p, p+32))
		}
		if r.Intn(2) == 0 {
			b.Status = append(b.Status, api.Value{From: 4352, To: 4370, N: 1}, api.Value{From: 4449, To: 4469, N: 1}, api.Value{From: 4520, To: 4546, N: 1}, api.Value{From: 44032, To: 55203, N: 1})
		}
		for p := rune(900); p < 912; p++ {
			b.Class = append(b.Class, value(p, 1+int(p-900)/3))
		}
		for p := rune(200); p < 230; p++ {
			switch letter, mark := 97+r.Int31n(3), 900+r.Int31n(8); {
			case p >= 220 && r.Intn(2) == 0:
				b.Decomp = append(b.Decomp, row(p, []rune{200 + r.Int31n(20), 908 + r.Int31n(4)}[:1+r.Intn(2)]...))
			case p < 204 || r.Intn(3) == 0:
				b.Decomp = append(b.Decomp, row(p, letter, mark))
			case p < 210:
				b.Decomp = append(b.Decomp, row(p, 200+r.Int31n(4), 906+r.Int31n(2)))
			}
		}
		if _, _, e := book.Sound(b); e == api.OK {
			return b, compiled(t, b)
		}
	}
}

// lists calls with every list of so many runes of some; the list is good till the call is back.
func lists(length int, of []rune, call func([]rune)) {
	l := make([]rune, length)
	var fill func(int)
	fill = func(at int) {
		if at == length {
			call(l)
			return
		}
		for _, p := range of {
			l[at] = p
			fill(at + 1)
		}
	}
	fill(0)
}

// cuts calls with a list in every way of cutting it.
func cuts(l []rune, call func([][]rune)) {
	if len(l) == 0 {
		call(nil)
		return
	}
	for way := range 1 << (len(l) - 1) {
		var pieces [][]rune
		from := 0
		for i := 1; i < len(l); i++ {
			if way>>(i-1)&1 == 1 {
				pieces = append(pieces, l[from:i])
				from = i
			}
		}
		call(append(pieces, l[from:]))
	}
}

func isName(t *testing.T, what string, got []rune, want ...rune) {
	t.Helper()
	if !slices.Equal(got, want) {
		t.Errorf("%s: %v, not %v", what, got, want)
	}
}
