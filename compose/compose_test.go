package compose

import (
	"fmt"
	"math/rand"
	"slices"
	"testing"

	"postern/api"
	"postern/book"
	"postern/canon"
	"postern/sample"
)

func isPair(t *testing.T, x *book.Tables, a, b, want rune, ok bool) {
	t.Helper()
	if c, is := Pair(x, a, b); c != want || is != ok {
		t.Errorf("Pair(%d, %d): %d, %v, not %d, %v", a, b, c, is, want, ok)
	}
}

// Promise 13.1: Pair by the book's rows: those that compose, excluded ones, those with a class where there may be none, single parts, the other way about.
func TestPairByTheBook(t *testing.T) {
	x := compiled(t, someBook())
	for _, c := range [][3]rune{{65, 768, 192}, {65, 769, 193}, {192, 803, 194}, {196, 768, 197}, {70, 71, 220}, {70, 222, 223}, {71, 768, 222}, {0x1f601, 0x1f602, 0x1f600}, {44033, 768, 231}, {65, 4449, 236}} {
		isPair(t, x, c[0], c[1], c[2], true)
	}
	for _, c := range [][2]rune{{69, 768}, {72, 73}, {65, 795}, {311, 768}, {803, 807}, {776, 795}, {768, 66}, {768, 65}, {71, 70}, {65, 770}, {66, 768}, {192, 0}, {0, 192}, {192, 192}, {768, 0}, {0x10fffe, 0}, {0, 0}, {-1, 768}, {65, -1}, {65 + 0x110000, 768}, {least, most}, {0xd800, 768}} {
		isPair(t, x, c[0], c[1], 0, false)
	}
}

// Promise 13.1: every pair of Hangul, and none about it.
func TestPairOfHangul(t *testing.T) {
	m := modelOf(api.Book{})
	many := 0
	check := func(a, b rune) {
		want, ok := m.syllables[[2]rune{a, b}]
		isPair(t, nil, a, b, want, ok)
		if ok {
			many++
		}
	}
	for a := rune(4300); a < 4600; a++ {
		for b := rune(4300); b < 4600; b++ {
			check(a, b)
		}
	}
	for a := rune(43900); a < 55400; a++ {
		for b := rune(4500); b < 4560; b++ {
			check(a, b)
		}
		for _, b := range []rune{0, 1, 27, -1, 4352, 4449, 4469, 44032, least, most} {
			check(a, b)
		}
	}
	for _, p := range []rune{0, -1, 44032 - 0x110000, 0x110000, least, most} {
		check(4352, p)
		check(44032, p)
		check(p, 4449)
		check(p, 4520)
	}
	if many != 11172 {
		t.Errorf("%d pairs", many)
	}
}

// Promise 13.1: Hangul goes ahead of the book's pair, and what stands just beside it is the book's.
func TestPairOfHangulAheadOfTheBook(t *testing.T) {
	x := compiled(t, someBook())
	isPair(t, x, 4353, 4449, 44620, true)
	isPair(t, x, 44032, 4520, 44033, true)
	isPair(t, x, 4352, 4449, 44032, true)
	isPair(t, x, 44032, 4546, 44059, true)
	isPair(t, x, 55176, 4520, 55177, true)
	isPair(t, x, 4352, 4519, 234, true)
	isPair(t, x, 44033, 4520, 235, true)
	isPair(t, x, 4352, 4470, 237, true)
	isPair(t, x, 55204, 4521, 240, true)
	// 55204 less 44032 is a multiple of 28 too, but no syllable; and so is 44004.
	isPair(t, x, 55204, 4520, 0, false)
	isPair(t, x, 44004, 4520, 0, false)
	isPair(t, x, 44032, 4519, 0, false)
	isPair(t, x, 44032, 4547, 0, false)
	isPair(t, x, 44032, 0, 0, false)
	isPair(t, x, 44033, 4521, 0, false)
	isPair(t, x, 4371, 4449, 0, false)
	isPair(t, x, 4351, 4449, 0, false)
	isPair(t, x, 4352, 4448, 0, false)
	isPair(t, x, 4352, 4520, 0, false)
	isPair(t, x, 4449, 4520, 0, false)
}

// Promise 13.1: Pair of all runes that the book speaks of and those about them, against the model.
func TestPairOfAll(t *testing.T) {
	b := someBook()
	x, m := compiled(t, b), modelOf(b)
	for _, a := range somePoints() {
		for _, c := range somePoints() {
			want, ok := m.pair(a, c)
			isPair(t, x, a, c, want, ok)
		}
	}
}

// Promise 13.1: Compose of names as they stand, by hand.
func TestCompose(t *testing.T) {
	x := compiled(t, someBook())
	for _, c := range []struct{ r, want []rune }{
		{nil, nil}, {[]rune{}, nil}, {[]rune{65}, []rune{65}}, {[]rune{768}, []rune{768}}, {[]rune{65, 768}, []rune{192}}, {[]rune{64, 65, 768, 66}, []rune{64, 192, 66}},
		// Nothing is taken apart, and nothing put in order.
		{[]rune{192}, []rune{192}}, {[]rune{210}, []rune{210}}, {[]rune{200}, []rune{200}}, {[]rune{768, 803}, []rune{768, 803}}, {[]rune{192, 803}, []rune{194}}, {[]rune{210, 803}, []rune{210, 803}}, {[]rune{70, 222}, []rune{223}}, {[]rune{44033, 768}, []rune{231}},
		// Blocked by one of class 0, of whatever kind.
		{[]rune{65, 66, 768}, []rune{65, 66, 768}}, {[]rune{65, 790, 768}, []rune{65, 790, 768}}, {[]rune{65, -1, 768}, []rune{65, -1, 768}}, {[]rune{65, 4520, 768}, []rune{65, 239}}, {[]rune{70, 73, 71}, []rune{70, 73, 71}},
		// By one of the same class, by one of a greater one, by one of a greater one that stands ahead of one that is lesser.
		{[]rune{65, 776, 768}, []rune{65, 776, 768}}, {[]rune{65, 777, 768, 803}, []rune{65, 777, 768, 803}}, {[]rune{65, 776, 803}, []rune{65, 776, 803}}, {[]rune{65, 776, 2364, 803}, []rune{65, 776, 2364, 803}}, {[]rune{65, 795, 2364, 807}, []rune{65, 795, 2364, 807}}, {[]rune{65, 0xd800, 768}, []rune{65, 0xd800, 768}},
		// Not by one of a lesser one.
		{[]rune{65, 795, 768}, []rune{192, 795}}, {[]rune{65, 2364, 795, 768, 66}, []rune{192, 2364, 795, 66}}, {[]rune{65, 2364, 803, 795, 768}, []rune{197, 2364, 795}}, {[]rune{65, 300, 768}, []rune{192, 300}},
		// One of class 0 is blocked by any that stands between.
		{[]rune{70, 71}, []rune{220}}, {[]rune{70, 2364, 71}, []rune{70, 2364, 71}}, {[]rune{70, 0xd800, 71}, []rune{70, 0xd800, 71}}, {[]rune{4352, 2364, 4449}, []rune{4352, 2364, 4449}}, {[]rune{44032, 2364, 4520}, []rune{44032, 2364, 4520}},
		// Several go into one starter, and what went in does not block.
		{[]rune{65, 768, 769}, []rune{198}}, {[]rune{65, 803, 768, 769}, []rune{199}}, {[]rune{65, 768, 803}, []rune{194}}, {[]rune{65, 2364, 803, 768, 769, 66}, []rune{199, 2364, 66}}, {[]rune{65, 768, 71}, []rune{225}}, {[]rune{70, 71, 768}, []rune{226}}, {[]rune{69, 803, 807}, []rune{203}}, {[]rune{4352, 4449, 4520, 768}, []rune{231}}, {[]rune{4352, 4449, 4520, 4520}, []rune{235}},
		// One that does not compose blocks those behind it.
		{[]rune{65, 768, 776, 769}, []rune{192, 776, 769}}, {[]rune{65, 768, 795, 71}, []rune{192, 795, 71}},
		// What was left behind stays, though the starter has become one with which it would compose, as 201 would with 807.
		{[]rune{69, 807, 803}, []rune{201, 807}}, {[]rune{69, 807, 803, 807}, []rune{201, 807, 807}},
		// Starters of unlike kinds, one behind the other.
		{[]rune{65, 768, 65, 769, 70, 71}, []rune{192, 193, 220}}, {[]rune{65, 65, 768}, []rune{65, 192}}, {[]rune{4352, 4352, 4449, 4449}, []rune{4352, 44032, 4449}}, {[]rune{4352, 4449, 4449, 768}, []rune{44032, 238}},
		// No starter: nothing to go into.
		{[]rune{768, 769, 803}, []rune{768, 769, 803}}, {[]rune{311, 768}, []rune{311, 768}}, {[]rune{803, 807}, []rune{803, 807}}, {[]rune{768, 65, 768}, []rune{768, 192}}, {[]rune{768, 803, 65, 803, 768, 803}, []rune{768, 803, 197, 803}},
		// Excluded, and of a class of its own.
		{[]rune{69, 768, 803}, []rune{69, 768, 803}}, {[]rune{72, 73}, []rune{72, 73}}, {[]rune{65, 795}, []rune{65, 795}},
		// Runes that are no code points are starters with which nothing composes.
		{[]rune{-1, 768, 65, 768}, []rune{-1, 768, 192}}, {[]rune{65, 0x110000, most, least}, []rune{65, 0x110000, most, least}},
	} {
		isName(t, fmt.Sprintf("Compose(%v)", c.r), Compose(x, c.r), c.want...)
	}
}

// Promise 13.1: Compose, Normal, Is of every short name, against the model.
func TestOfAllShortNames(t *testing.T) {
	b := someBook()
	x, m := compiled(t, b), modelOf(b)
	check := func(r []rune) { isAsModel(t, x, m, r) }
	for length := range 6 {
		lists(length, []rune{65, 768, 769, 803, 795, 807, 71, 194}, check)
	}
	for length := range 5 {
		lists(length, []rune{69, 70, 71, 192, 222, 768, 803, 807, 214, 213, -1}, check)
		lists(length, []rune{4352, 4353, 4449, 4519, 4520, 44032, 44033, 232, 768, 2364}, check)
	}
	for length := range 3 {
		lists(length, somePoints(), check)
	}
}

func isAsModel(t *testing.T, x *book.Tables, m model, r []rune) {
	t.Helper()
	if got, want := Compose(x, r), m.compose(r); !slices.Equal(got, want) {
		t.Errorf("Compose(%v): %v, not %v", r, got, want)
	}
	want := m.normal(r)
	if got := Normal(x, r); !slices.Equal(got, want) {
		t.Errorf("Normal(%v): %v, not %v", r, got, want)
	}
	if got, want := Is(x, r), slices.Equal(want, r); got != want {
		t.Errorf("Is(%v): %v", r, got)
	}
}

// Promise 13.1: Normal, by hand.
func TestNormal(t *testing.T) {
	x := compiled(t, someBook())
	for _, c := range []struct{ r, want []rune }{
		{nil, nil}, {[]rune{}, nil}, {[]rune{66}, []rune{66}}, {[]rune{192}, []rune{192}}, {[]rune{65, 768}, []rune{192}},
		// Marks come into their order ahead of being composed.
		{[]rune{65, 768, 803}, []rune{197}}, {[]rune{192, 803}, []rune{197}}, {[]rune{194}, []rune{197}}, {[]rune{65, 776, 803}, []rune{196, 776}}, {[]rune{65, 776, 768, 803}, []rune{196, 776, 768}}, {[]rune{192, 769}, []rune{198}}, {[]rune{193, 768}, []rune{193, 768}},
		{[]rune{203}, []rune{201, 807}}, {[]rune{69, 803, 807}, []rune{201, 807}},
		// Single parts and excluded ones stay apart.
		{[]rune{210}, []rune{192}}, {[]rune{65, 211}, []rune{192}}, {[]rune{200}, []rune{69, 768}}, {[]rune{224}, []rune{72, 73}}, {[]rune{300, 768}, []rune{192, 795}}, {[]rune{310}, []rune{311, 768}}, {[]rune{0x10ffff}, []rune{0x10fffe}},
		// A second one with parts is never met: these have given way to theirs.
		{[]rune{223}, []rune{226}}, {[]rune{70, 222}, []rune{226}}, {[]rune{70, 221}, []rune{220}},
		// No starter, and marks alone.
		{[]rune{768, 803}, []rune{803, 768}}, {[]rune{212}, []rune{807, 803}}, {[]rune{213, 65, 768}, []rune{795, 776, 192}}, {[]rune{65, 213}, []rune{65, 795, 776}}, {[]rune{65, 214}, []rune{192, 66}}, {[]rune{803, 211, 807}, []rune{807, 803, 768}},
		// Hangul.
		{[]rune{44032, 4520}, []rune{44033}}, {[]rune{44033}, []rune{44033}}, {[]rune{232}, []rune{44620}}, {[]rune{233}, []rune{44033}}, {[]rune{230, 4521}, []rune{44034}}, {[]rune{231, 803}, []rune{231, 803}}, {[]rune{231, 4520}, []rune{231, 4520}},
		{[]rune{-1, 768, 803, most, 65, 768, 0x110000, least}, []rune{-1, 803, 768, most, 192, 0x110000, least}},
	} {
		isName(t, fmt.Sprintf("Normal(%v)", c.r), Normal(x, c.r), c.want...)
	}
}

// Promise 13.1: Is, by hand.
func TestIs(t *testing.T) {
	x := compiled(t, someBook())
	for _, r := range [][]rune{nil, {}, {65}, {192}, {197}, {768}, {803, 768}, {192, 795}, {69, 768}, {44032}, {44033}, {231}, {222}, {71}, {4449}, {4352, 4520}, {-1, 768, most}, {65, 776, 768}, {0xd800}, {0x1f600}} {
		if !Is(x, r) {
			t.Errorf("Is(%v): false", r)
		}
	}
	for _, r := range [][]rune{{65, 768}, {194}, {210}, {211}, {200}, {300}, {768, 803}, {192, 803}, {192, 769}, {4352, 4449}, {44032, 4520}, {232}, {212}, {70, 71}, {-1, 768, 803}, {66, 65, 768}, {65, 768, 66}} {
		if Is(x, r) {
			t.Errorf("Is(%v): true", r)
		}
	}
}

// Promise 13.1: Same, by hand, either way about.
func TestSame(t *testing.T) {
	x := compiled(t, someBook())
	for _, c := range []struct {
		a, b []rune
		want bool
	}{
		{nil, nil, true}, {nil, []rune{}, true}, {nil, []rune{0}, false}, {[]rune{65}, []rune{65}, true}, {[]rune{65}, []rune{66}, false}, {[]rune{65}, []rune{65, 768}, false},
		{[]rune{65, 768}, []rune{192}, true}, {[]rune{210}, []rune{192}, true}, {[]rune{194}, []rune{197}, true}, {[]rune{65, 768, 803}, []rune{65, 803, 768}, true}, {[]rune{65, 768, 776}, []rune{65, 776, 768}, false}, {[]rune{200}, []rune{69, 768}, true}, {[]rune{200}, []rune{69, 769}, false},
		{[]rune{4352, 4449, 4520}, []rune{44033}, true}, {[]rune{44032, 4520}, []rune{233}, true}, {[]rune{4353, 4449}, []rune{232}, true}, {[]rune{44032}, []rune{44033}, false},
		// What is mapped to another one, or taken for it, is another one.
		{[]rune{66}, []rune{98}, false}, {[]rune{66}, []rune{65}, false}, {[]rune{768}, []rune{769}, false},
		{[]rune{-1}, []rune{-1}, true}, {[]rune{-1}, []rune{0x110000}, false}, {[]rune{least, 768, 803}, []rune{least, 803, 768}, true}, {[]rune{-1}, []rune{65533}, false},
	} {
		if got := Same(x, c.a, c.b); got != c.want {
			t.Errorf("Same(%v, %v): %v", c.a, c.b, got)
		}
		if got := Same(x, c.b, c.a); got != c.want {
			t.Errorf("Same(%v, %v): %v", c.b, c.a, got)
		}
	}
}

// Promise 13.1: Append with no code point behind, with one, with several; the first of them goes into what stands ahead, or takes something out of it.
func TestAppend(t *testing.T) {
	x := compiled(t, someBook())
	isName(t, "nothing", Append(x, nil))
	isName(t, "nothing and an empty list", Append(x, []rune{}, []rune{}...))
	isName(t, "nothing behind", Append(x, []rune{65, 768, 803}), 197)
	isName(t, "one behind nothing", Append(x, nil, 210), 192)
	isName(t, "one", Append(x, []rune{66, 65}, 768), 66, 192)
	isName(t, "one that goes ahead of another", Append(x, []rune{65, 768}, 803), 197)
	isName(t, "one that stays", Append(x, []rune{65, 768}, 66), 192, 66)
	isName(t, "several", Append(x, []rune{65}, 768, 803, 769, 66, 65, 768), 199, 66, 192)
	isName(t, "several behind nothing", Append(x, nil, 65, 768), 192)
	isName(t, "marks", Append(x, []rune{768}, 803, 65), 803, 768, 65)
	isName(t, "jamo", Append(x, []rune{4352}, 4449, 4520), 44033)
	isName(t, "a jamo", Append(x, []rune{44032}, 4520), 44033)
	isName(t, "a list", Append(x, []rune{70}, []rune{71, 768}...), 226)
	isName(t, "no code points", Append(x, []rune{-1}, most, 768), -1, most, 768)
}

// Promise 13.1: all calls by books of every kind, against the model.
func TestOfMany(t *testing.T) {
	r := rand.New(rand.NewSource(131))
	same, composed := 0, 0
	for range 300 {
		b, x := randomBook(t, r)
		m := modelOf(b)
		for range 40 {
			l := randomName(r, 12)
			isAsModel(t, x, m, l)
			at := r.Intn(len(l) + 1)
			want := m.normal(l)
			if got := Append(x, l[:at], l[at:]...); !slices.Equal(got, want) {
				t.Fatalf("Append(%v, %v): %v, not %v", l[:at], l[at:], got, want)
			}
			other := changed(r, m, l)
			is := slices.Equal(want, m.normal(other))
			if got := Same(x, l, other); got != is || Same(x, other, l) != is {
				t.Fatalf("Same(%v, %v): %v", l, other, got)
			}
			if is && !slices.Equal(l, other) {
				same++
			}
			if len(want) < len(m.decompose(l)) {
				composed++
			}
			isDiffer(t, x, m, l, other)
		}
	}
	if same < 500 || composed < 3000 {
		t.Errorf("only %d that are the same, %d that are composed", same, composed)
	}
}

// changed is a name that is likely, and not sure, to be the same.
func changed(r *rand.Rand, m model, l []rune) []rune {
	l = slices.Clone(l)
	if len(l) < 2 {
		return l
	}
	for range 1 + r.Intn(3) {
		at := r.Intn(len(l) - 1)
		if r.Intn(3) == 0 {
			l = slices.Concat(l[:at], m.decompose(l[at:at+1]), l[at+1:])
		} else {
			l[at], l[at+1] = l[at+1], l[at]
		}
	}
	return l
}

// isDiffer holds Differ against the model, by what both normal forms have from the front, code point by code point.
func isDiffer(t *testing.T, x *book.Tables, m model, a, b []rune) {
	t.Helper()
	na, nb := m.normal(a), m.normal(b)
	common := 0
	for k := 1; k <= len(na) && k <= len(nb) && slices.Equal(na[:k], nb[:k]); k++ {
		common = k
	}
	left := len(na[common:])
	if more := len(nb[common:]); more > left {
		left = more
	}
	if n, behind := Differ(x, a, b); n != common || behind != left {
		t.Errorf("Differ(%v, %v): %d, %d, not %d, %d", a, b, n, behind, common, left)
	}
}

// Promise 13.6: Differ, by hand, either way about: the same, one the other's beginning, both going on.
func TestDiffer(t *testing.T) {
	x := compiled(t, someBook())
	for _, c := range []struct {
		a, b      []rune
		n, behind int
	}{
		{nil, nil, 0, 0}, {nil, []rune{}, 0, 0}, {[]rune{65}, []rune{65}, 1, 0}, {[]rune{65, 768}, []rune{192}, 1, 0}, {[]rune{66, 194, 66}, []rune{66, 65, 768, 803, 66}, 3, 0}, {[]rune{44033}, []rune{4352, 4449, 4520}, 1, 0},
		{nil, []rune{65}, 0, 1}, {nil, []rune{65, 768}, 0, 1}, {nil, []rune{200, 65}, 0, 3}, {[]rune{65}, []rune{65, 66}, 1, 1}, {[]rune{66, 65}, []rune{66, 65, 66, 66, 200}, 2, 4},
		// A beginning as it stands that is none of the normal form.
		{[]rune{65}, []rune{65, 768}, 0, 1}, {[]rune{66, 65}, []rune{66, 65, 768, 66}, 1, 2}, {[]rune{65, 768}, []rune{65, 769}, 0, 1}, {[]rune{4352}, []rune{4352, 4449}, 0, 1},
		// Both go on, one longer; what is the same again further on counts as well.
		{[]rune{65, 66}, []rune{65, 67}, 1, 1}, {[]rune{65, 66, 64, 64}, []rune{65, 67}, 1, 3}, {[]rune{65, 66, 64}, []rune{65, 67, 64}, 1, 2}, {[]rune{69, 768}, []rune{69, 769, 769}, 1, 2}, {[]rune{65}, []rune{66}, 0, 1}, {[]rune{-1, most}, []rune{-1, least, 65}, 1, 2},
	} {
		if n, behind := Differ(x, c.a, c.b); n != c.n || behind != c.behind {
			t.Errorf("Differ(%v, %v): %d, %d, not %d, %d", c.a, c.b, n, behind, c.n, c.behind)
		}
		if n, behind := Differ(x, c.b, c.a); n != c.n || behind != c.behind {
			t.Errorf("Differ(%v, %v): %d, %d, not %d, %d", c.b, c.a, n, behind, c.n, c.behind)
		}
	}
}

// Nil tables are those of a book without rows: Hangul alone composes.
func TestNilTables(t *testing.T) {
	empty := compiled(t, api.Book{})
	m := modelOf(api.Book{})
	for _, x := range []*book.Tables{nil, empty, new(book.Tables)} {
		isPair(t, x, 65, 768, 0, false)
		isPair(t, x, 4352, 4449, 44032, true)
		isName(t, "Compose", Compose(x, []rune{65, 768, 4352, 4449, 4520}), 65, 768, 44033)
		isName(t, "Normal", Normal(x, []rune{65, 768, 803, 44032, 4520, 192}), 65, 768, 803, 44033, 192)
		isName(t, "Append", Append(x, []rune{65, 4352}, 4449, 4520), 65, 44033)
		if !Is(x, []rune{65, 768, 803}) || Is(x, []rune{4352, 4449}) || !Is(x, nil) {
			t.Error("Is")
		}
		if !Same(x, []rune{44033}, []rune{44032, 4520}) || Same(x, []rune{65, 768}, []rune{192}) || !Same(x, nil, nil) {
			t.Error("Same")
		}
		isDiffer(t, x, m, []rune{192, 768, 44032}, []rune{192, 768, 4352, 4449, 4520})
		lists(3, []rune{65, 768, 192, 4352, 4449, 4520, 44032, 44033, -1}, func(r []rune) {
			isAsModel(t, x, m, r)
			isCut(t, x, m, r)
		})
	}
}

// Promises 13.4 and 13.7, of books that may be: Normal of Normal is Normal, and says what the name says; QuickYes means Is; Normal is that of the pieces; Differ tells 0 just of names that are Same.
func TestWhatFollows(t *testing.T) {
	r := rand.New(rand.NewSource(134))
	many := make(map[int]int)
	for range 300 {
		_, x := randomBook(t, r)
		for range 60 {
			l, other := randomName(r, 1+r.Intn(8)), randomName(r, 3)
			n := Normal(x, l)
			if again := Normal(x, n); !slices.Equal(again, n) || !Is(x, n) {
				t.Fatalf("Normal(%v): %v, and of that %v", l, n, again)
			}
			if !canon.Equivalent(x, l, n) {
				t.Fatalf("Normal(%v): %v, which is not equivalent", l, n)
			}
			quick := Quick(x, l)
			many[quick]++
			if quick == api.QuickYes && !Is(x, l) {
				t.Fatalf("Quick(%v): Yes, but it is not", l)
			}
			var joined []rune
			at := Parts(x, l)
			for i, from := range at {
				joined = append(joined, Normal(x, l[from:append(at, len(l))[i+1]])...)
			}
			if !slices.Equal(joined, n) {
				t.Fatalf("%v by pieces: %v, not %v", l, joined, n)
			}
			for _, o := range [][]rune{other, n, canon.Decompose(x, l)} {
				if _, behind := Differ(x, l, o); (behind == 0) != Same(x, l, o) {
					t.Fatalf("Differ(%v, %v): %d behind", l, o, behind)
				}
			}
		}
	}
	for _, quick := range []int{api.QuickYes, api.QuickNo, api.QuickMaybe} {
		if many[quick] < 300 {
			t.Errorf("only %d of the answer %d", many[quick], quick)
		}
	}
}

// Promise 13.4, of sound books: QuickNo of what is kept means not Is, and Normal of what is kept is kept.
func TestWhatFollowsOfSoundBooks(t *testing.T) {
	r := rand.New(rand.NewSource(135))
	many, composed := 0, 0
	for range 100 {
		b, x := soundBook(t, r)
		m := modelOf(b)
		var kept []rune
		for p := rune(45); p < 56000; p++ {
			if m.kept(p) && (p < 4352 || p < 4354 || p > 4448 && p < 4451 || p > 4519 && p < 4522 || p > 44031 && p < 44036) {
				kept = append(kept, p)
			}
		}
		for range 100 {
			l := make([]rune, r.Intn(7))
			for i := range l {
				if l[i] = kept[r.Intn(len(kept))]; r.Intn(2) == 0 {
					l[i] = []rune{97, 98, 900 + r.Int31n(8)}[r.Intn(3)]
				}
			}
			if Quick(x, l) == api.QuickNo {
				many++
				if Is(x, l) {
					t.Fatalf("Quick(%v): No, but it is", l)
				}
			}
			n := Normal(x, l)
			if !slices.Equal(n, canon.Decompose(x, n)) {
				composed++
			}
			for _, p := range n {
				if !m.kept(p) {
					t.Fatalf("Normal(%v): %v, and %d is not kept", l, n, p)
				}
			}
		}
	}
	if many < 300 || composed < 1000 {
		t.Errorf("only %d of QuickNo, %d that are composed", many, composed)
	}
}

// Rule R1: long names take no longer for each code point.
func TestLongNames(t *testing.T) {
	const many = 1 << 18
	x := compiled(t, someBook())
	r := slices.Concat([]rune{65}, slices.Repeat([]rune{776}, many), slices.Repeat([]rune{803}, many), slices.Repeat([]rune{4352, 4449, 4520}, many))
	want := slices.Concat([]rune{196}, slices.Repeat([]rune{803}, many-1), slices.Repeat([]rune{776}, many), slices.Repeat([]rune{44033}, many))
	if got := Normal(x, r); !slices.Equal(got, want) {
		t.Errorf("Normal: %d code points, not %d", len(got), len(want))
	}
	if got := Append(x, r[:5], r[5:]...); !slices.Equal(got, want) {
		t.Errorf("Append: %d code points, not %d", len(got), len(want))
	}
	if n, behind := Differ(x, r, want[:len(want)-1]); n != len(want)-1 || behind != 1 {
		t.Errorf("Differ: %d, %d", n, behind)
	}
	if got := Parts(x, r); len(got) != many+1 || got[1] != 2*many+1 {
		t.Errorf("Parts: %d", len(got))
	}
	if at, length := Longest(x, r); at != 0 || length != 2*many+1 {
		t.Errorf("Longest: %d, %d", at, length)
	}
	if quick := Quick(x, want[1:]); quick != api.QuickMaybe {
		t.Errorf("Quick: %d", quick)
	}
}

// Rule R1: chains of as many rows as a book may have.
func TestLongChains(t *testing.T) {
	var b api.Book
	for i := range rune(65535) {
		p := 0x20000 + i
		if i%5000 == 4999 {
			b.Decomp = append(b.Decomp, row(p, p+1, 768))
		} else {
			b.Decomp = append(b.Decomp, row(p, p+1))
		}
	}
	x := compiled(t, b)
	marks := slices.Repeat([]rune{768}, 13)
	isName(t, "Normal", Normal(x, []rune{0x20000}), append([]rune{0x2ffff}, marks...)...)
	if quick := Quick(x, []rune{0x20000}); quick != api.QuickNo {
		t.Errorf("Quick: %d", quick)
	}
	if at := Parts(x, []rune{65, 0x20000, 768}); !slices.Equal(at, []int{0, 1}) {
		t.Errorf("Parts: %v", at)
	}
}

// By the sample book, each code point that it speaks of by itself, and behind others; and all of Hangul's syllables.
func TestBySample(t *testing.T) {
	x, m := sample.Tables(), modelOf(sample.Book())
	for p := rune(0); p < 0x3100; p++ {
		isAsModel(t, x, m, []rune{'a', p})
		isAsModel(t, x, m, []rune{'s', 0x323, p, 0x307})
		isCut(t, x, m, []rune{p})
	}
	for s, jamo := range m.jamo {
		isName(t, "jamo", Normal(x, jamo), s)
		isName(t, "a syllable", Normal(x, []rune{s}), s)
	}
	isName(t, "bu 0308 cher", Normal(x, []rune{'b', 'u', 0x308, 'c', 'h', 'e', 'r'}), 'b', 0xfc, 'c', 'h', 'e', 'r')
	isName(t, "1E62 0307", Normal(x, []rune{0x1e62, 0x307}), 0x1e68)
	isName(t, "212B, 2126", Normal(x, []rune{0x212b, 0x2126}), 0xc5, 0x3a9)
	isName(t, "0958", Normal(x, []rune{0x958}), 0x915, 0x93c)
}

// The chapter's examples.
func TestExamples(t *testing.T) {
	x := sample.Tables()
	isName(t, "Normal(65, 768)", Normal(x, []rune{65, 768}), 192)
	isName(t, "Normal(115, 775, 803)", Normal(x, []rune{115, 775, 803}), 7785)
	isName(t, "Normal(2325, 2364)", Normal(x, []rune{2325, 2364}), 2325, 2364)
	isName(t, "Normal(4352, 4449, 4520)", Normal(x, []rune{4352, 4449, 4520}), 44033)
	isName(t, "Normal(97, 807, 768)", Normal(x, []rune{97, 807, 768}), 224, 807)
	for _, c := range []struct {
		r    []rune
		want int
	}{{[]rune{97}, api.QuickYes}, {[]rune{97, 768}, api.QuickMaybe}, {[]rune{8490}, api.QuickYes}, {[]rune{8491}, api.QuickNo}} {
		if quick := Quick(x, c.r); quick != c.want {
			t.Errorf("Quick(%v): %d, not %d", c.r, quick, c.want)
		}
	}
	if at := Parts(x, []rune{97, 768, 98}); !slices.Equal(at, []int{0, 2}) {
		t.Errorf("Parts: %v", at)
	}
}
