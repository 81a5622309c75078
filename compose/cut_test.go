package compose

import (
	"math/rand"
	"slices"
	"testing"

	"postern/api"
	"postern/book"
)

// isCut holds Quick, Parts and Longest against the model.
func isCut(t *testing.T, x *book.Tables, m model, r []rune) {
	t.Helper()
	if got, want := Quick(x, r), m.quick(r); got != want {
		t.Errorf("Quick(%v): %d, not %d", r, got, want)
	}
	var at []int
	longest, length, here := 0, 0, 0
	for _, piece := range m.pieces(r) {
		at = append(at, here)
		if len(piece) > length {
			longest, length = here, len(piece)
		}
		here += len(piece)
	}
	if got := Parts(x, r); !slices.Equal(got, at) {
		t.Errorf("Parts(%v): %v, not %v", r, got, at)
	}
	if place, n := Longest(x, r); place != longest || n != length {
		t.Errorf("Longest(%v): %d, %d, not %d, %d", r, place, n, longest, length)
	}
}

// Promise 13.2: each of the three answers, by each of its reasons.
func TestQuick(t *testing.T) {
	x := compiled(t, someBook())
	for want, names := range map[int][][]rune{
		api.QuickYes: {
			nil, {}, {65}, {65, 66, 64}, {192}, {197, 66, 231}, {220}, {44032}, {44033, 44032}, {4352}, {4352, 4352}, {4371}, {311}, {-1}, {most, 65, least}, {0x110000},
			// A second one of an excluded pair alone, or of one with a class; what comes first in a pair; what has a class and goes into nothing.
			{73}, {795}, {65, 795}, {72, 73}, {2364}, {0xd800}, {776, 776}, {0x1f600}, {0x1f601},
			// Classes that rise, stay, and begin again behind class 0.
			{2364, 795, 776, 0xd800}, {795, 795}, {776, 65, 795}, {776, -1, 795}, {776, 0, 2364, 65, 2364},
			// The class of the one ahead is its own, not that of its last part: 192 ends in 768.
			{192, 795}, {192, 2364},
		},
		api.QuickNo: {
			// The order, ahead of, behind and far from other things.
			{795, 2364}, {65, 795, 2364}, {776, 795}, {65, 66, 776, 2364, 65}, {0xd800, 776}, {795, 776, 2364},
			// What normal form C never has: single parts, excluded ones, ones with a class, ones whose marks change places, ones that Hangul goes ahead of, ones that begin with a mark.
			{210}, {211}, {200}, {224}, {300}, {310}, {194}, {203}, {230}, {232}, {233}, {212}, {213}, {214}, {221}, {223}, {0x10ffff}, {65, 66, 210}, {210, 65},
			// Ahead of Maybe, wherever both stand.
			{768, 803}, {768, 210}, {210, 768}, {71, 795, 2364}, {795, 2364, 71}, {4449, 65, 232}, {222, 200},
		},
		api.QuickMaybe: {
			// Second ones of pairs, with a class and without.
			{768}, {65, 768}, {769}, {803}, {807}, {71}, {70, 71}, {65, 71}, {71, 65, 66}, {0x1f602}, {-1, 768},
			// What begins with one.
			{222}, {65, 222}, {238}, {239},
			// Marks in their order.
			{807, 803, 768},
			// Hangul's jamo, and those beside them that are in the book's pairs.
			{4449}, {4469}, {4450}, {4520}, {4546}, {4521}, {4352, 4449}, {44032, 4520}, {65, 4520}, {4519}, {4470},
		},
	} {
		for _, r := range names {
			if got := Quick(x, r); got != want {
				t.Errorf("Quick(%v): %d, not %d", r, got, want)
			}
		}
	}
}

// Promises 13.2 and 13.3: where the jamo begin and end, without a book.
func TestCutsOfJamo(t *testing.T) {
	for p := rune(4300); p < 4600; p++ {
		later := p >= 4449 && p <= 4469 || p >= 4520 && p <= 4546
		quick, at := api.QuickYes, []int{0, 1}
		if later {
			quick, at = api.QuickMaybe, []int{0}
		}
		if got := Quick(nil, []rune{p}); got != quick {
			t.Errorf("Quick(%d): %d, not %d", p, got, quick)
		}
		if got := Parts(nil, []rune{65, p}); !slices.Equal(got, at) {
			t.Errorf("Parts(65, %d): %v, not %v", p, got, at)
		}
	}
}

// Promise 13.3: each kind of code point that is a place to cut at, and each that is none.
func TestParts(t *testing.T) {
	x := compiled(t, someBook())
	for _, p := range []rune{65, 0, 192, 197, 220, 200, 210, 224, 73, 300, 1310, 194, 203, 230, 231, 232, 233, 44032, 44033, 4352, 4370, 4371, 223, 225, 0x10ffff, 0xdfff, -1, 0x110000, least, most, 0x1f600, 0x1f601} {
		for _, ahead := range []rune{66, 768, p} {
			if at := Parts(x, []rune{ahead, p}); !slices.Equal(at, []int{0, 1}) {
				t.Errorf("Parts(%d, %d): %v", ahead, p, at)
			}
		}
	}
	// Marks of every kind; what has a class and stays (311) or begins with one that has (310, 212, 213, 214, 211, though these are of class 0); second ones of class 0, and what begins with one; jamo, and what begins with one.
	for _, p := range []rune{768, 803, 795, 2364, 0xd800, 311, 310, 211, 212, 213, 214, 71, 221, 222, 0x1f602, 4449, 4469, 4520, 4546, 4519, 4470, 238, 239} {
		for _, ahead := range []rune{66, 768, p} {
			if at := Parts(x, []rune{ahead, p}); !slices.Equal(at, []int{0}) {
				t.Errorf("Parts(%d, %d): %v", ahead, p, at)
			}
		}
		if at := Parts(x, []rune{p, p, 66, 65, p, 66}); !slices.Equal(at, []int{0, 2, 3, 5}) {
			t.Errorf("Parts about %d: %v", p, at)
		}
	}
	for _, r := range [][]rune{nil, {}} {
		if at := Parts(x, r); len(at) != 0 {
			t.Errorf("Parts of nothing: %v", at)
		}
	}
	if at := Parts(x, []rune{768}); !slices.Equal(at, []int{0}) {
		t.Errorf("Parts(768): %v", at)
	}
}

// Promise 13.6: the longest piece, the first of several.
func TestLongest(t *testing.T) {
	x := compiled(t, someBook())
	for _, c := range []struct {
		l             []rune
		place, length int
	}{
		{nil, 0, 0}, {[]rune{}, 0, 0}, {[]rune{65}, 0, 1}, {[]rune{768}, 0, 1}, {[]rune{65, 66, 64}, 0, 1},
		{[]rune{65, 768, 66}, 0, 2}, {[]rune{66, 65, 768}, 1, 2}, {[]rune{66, 65, 768, 64}, 1, 2}, {[]rune{65, 768, 66, 803, 64, 807}, 0, 2}, {[]rune{65, 66, 768, 64, 803, 807, 65, 776, 795, 65}, 3, 3}, {[]rune{768, 803, 65, 768}, 0, 2}, {[]rune{768, 65, 768, 803}, 1, 3},
		{[]rune{65, 66, 4352, 4449, 4520, 4352, 4449, 4520, 4352}, 2, 3}, {[]rune{-1, most, 768, least}, 1, 2},
	} {
		if place, length := Longest(x, c.l); place != c.place || length != c.length {
			t.Errorf("Longest(%v): %d, %d, not %d, %d", c.l, place, length, c.place, c.length)
		}
	}
}

// Promises 13.2, 13.3 and 13.6: every short name, and names of every kind by books of every kind, against the model.
func TestCutsOfMany(t *testing.T) {
	b := someBook()
	x, m := compiled(t, b), modelOf(b)
	check := func(r []rune) { isCut(t, x, m, r) }
	for length := range 3 {
		lists(length, somePoints(), check)
	}
	for length := range 5 {
		lists(length, []rune{65, 71, 222, 768, 795, 213, 4449}, check)
	}
	r := rand.New(rand.NewSource(132))
	for range 300 {
		b, x := randomBook(t, r)
		m := modelOf(b)
		for p := rune(198); p < 914; p++ {
			if p == 234 {
				p = 898
			}
			isCut(t, x, m, []rune{p})
		}
		for range 20 {
			isCut(t, x, m, randomName(r, 8))
		}
	}
}

// Promise 13.6: Hangul of jamo, of syllables of both kinds, and of what stands just beside.
func TestHangul(t *testing.T) {
	for _, c := range []struct {
		r                  []rune
		jamo, twos, threes int
	}{
		{nil, 0, 0, 0}, {[]rune{}, 0, 0, 0}, {[]rune{65, 768, -1, least, most, 0x110000}, 0, 0, 0},
		{[]rune{4352, 4370, 4449, 4469, 4520, 4546}, 6, 0, 0}, {[]rune{4351, 4371, 4448, 4470, 4519, 4547, 44031, 55204}, 0, 0, 0},
		{[]rune{44032, 44060, 55176}, 0, 3, 0}, {[]rune{44033, 44059, 55203, 55177, 44061}, 0, 0, 5}, {[]rune{44032, 44033, 44033, 4352, 65, 4352, 4449}, 3, 1, 2},
	} {
		if jamo, twos, threes := Hangul(c.r); jamo != c.jamo || twos != c.twos || threes != c.threes {
			t.Errorf("Hangul(%v): %d, %d, %d", c.r, jamo, twos, threes)
		}
	}
	var all []rune
	for p := rune(-1000); p < 0x110000+1000; p++ {
		all = append(all, p)
	}
	if jamo, twos, threes := Hangul(all); jamo != 67 || twos != 399 || threes != 10773 {
		t.Errorf("Hangul of all: %d, %d, %d", jamo, twos, threes)
	}
}
