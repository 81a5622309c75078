package mapping

import (
	"fmt"
	"math/rand"
	"slices"
	"testing"

	"postern/api"
	"postern/book"
	"postern/compose"
	"postern/sample"
)

// Promise 15.1: Map, Fold and Sources by hand: no runes, each status, what is no code point, what gives way to nothing, to one, to several.
func TestMapFoldSources(t *testing.T) {
	x := compiled(t, someBook())
	for _, c := range []struct {
		r, mapped, folded []rune
		sources           []int
	}{
		{nil, nil, nil, nil},
		{[]rune{}, nil, nil, nil},
		// Valid, a deviation, disallowed, of no code point: they stay.
		{[]rune{97}, []rune{97}, []rune{97}, []int{0}},
		{[]rune{223, 203, 204, 205, 0x10fffe}, []rune{223, 203, 204, 205, 0x10fffe}, []rune{223, 203, 204, 205, 0x10fffe}, []int{0, 1, 2, 3, 4}},
		{[]rune{128, 64, 1, 192, 207}, []rune{128, 64, 1, 192, 207}, []rune{128, 64, 1, 192, 207}, []int{0, 1, 2, 3, 4}},
		{[]rune{-1, 0x110000, least, most}, []rune{-1, 0x110000, least, most}, []rune{-1, 0x110000, least, most}, []int{0, 1, 2, 3}},
		{[]rune{65 - 0x110000, 65 + 0x110000, 173 + 0x110000}, []rune{65 - 0x110000, 65 + 0x110000, 173 + 0x110000}, []rune{65 - 0x110000, 65 + 0x110000, 173 + 0x110000}, []int{0, 1, 2}},
		// Surrogates: what the book says of them.
		{[]rune{0xd7ff, 0xd800, 0xd802, 0xd803, 0xd804, 0xd805, 0xdfff}, []rune{0xd7ff, 0xd800, 0xd803, 0xe000, 97, 0xd805}, []rune{0xd7ff, 0xd800, 0xd803, 0xe000, 97, 0xd805}, []int{0, 1, 3, 4, 4, 5}},
		// Ignored: they go away.
		{[]rune{173}, nil, nil, nil},
		{[]rune{173, 200, 201, 202, 0x10fffd, 0xdfff}, nil, nil, nil},
		{[]rune{173, 97, 200}, []rune{97}, []rune{97}, []int{1}},
		{[]rune{97, 173, 98}, []rune{97, 98}, []rune{97, 98}, []int{0, 2}},
		// Mapped, to one and to several.
		{[]rune{65}, []rune{97}, []rune{97}, []int{0}},
		{[]rune{0, 80, 65}, []rune{97, 46, 97}, []rune{97, 46, 97}, []int{0, 1, 2}},
		{[]rune{189}, []rune{49, 8260, 50}, []rune{49, 8260, 50}, []int{0, 0, 0}},
		{[]rune{98, 70, 173, 72, 71, 99}, []rune{98, 120, 121, 120, 121, 120, 121, 99}, []rune{98, 120, 121, 120, 121, 120, 121, 99}, []int{0, 1, 1, 3, 3, 4, 4, 5}},
		{[]rune{77, 65}, []rune{97, 98, 99, 100, 101, 102, 103, 104, 105, 106, 107, 108, 109, 110, 111, 112, 113, 114, 97}, []rune{97, 98, 99, 100, 101, 102, 103, 104, 105, 106, 107, 108, 109, 110, 111, 112, 113, 114, 97}, []int{0, 0, 0, 0, 0, 0, 0, 0, 0, 0, 0, 0, 0, 0, 0, 0, 0, 0, 1}},
		{[]rune{0x10ffff, 69, 0x10fffd}, []rune{0x10fffe, 0, 803, 769}, []rune{0x10fffe, 0, 803, 769}, []int{0, 0, 1, 1}},
		// Once: what comes out is not mapped again.
		{[]rune{73, 74, 75, 76}, []rune{73, 65, 173, 128}, []rune{73, 65, 173, 128}, []int{0, 1, 2, 3}},
		// Normal form C composes what comes out, whatever it came from, across what is ignored; and takes apart what is disallowed.
		{[]rune{66}, []rune{97, 768}, []rune{224}, []int{0, 0}},
		{[]rune{65, 768}, []rune{97, 768}, []rune{224}, []int{0, 1}},
		{[]rune{65, 67}, []rune{97, 768}, []rune{224}, []int{0, 1}},
		{[]rune{65, 173, 200, 67, 98}, []rune{97, 768, 98}, []rune{224, 98}, []int{0, 3, 4}},
		{[]rune{97, 68}, []rune{97, 769, 803}, []rune{7842}, []int{0, 1, 1}},
		{[]rune{68, 65}, []rune{769, 803, 97}, []rune{803, 769, 97}, []int{0, 0, 1}},
		{[]rune{66, 803}, []rune{97, 768, 803}, []rune{7841, 768}, []int{0, 0, 1}},
		{[]rune{74, 67}, []rune{65, 768}, []rune{192}, []int{0, 1}},
		{[]rune{78, 79}, []rune{4352, 4449, 4520}, []rune{44033}, []int{0, 0, 1}},
		{[]rune{300, 67}, []rune{300, 768}, []rune{224}, []int{0, 1}},
		{[]rune{224}, []rune{224}, []rune{224}, []int{0}},
	} {
		isList(t, fmt.Sprintf("Map(%v)", c.r), Map(x, c.r), c.mapped...)
		isList(t, fmt.Sprintf("Fold(%v)", c.r), Fold(x, c.r), c.folded...)
		isList(t, fmt.Sprintf("Sources(%v)", c.r), Sources(x, c.r), c.sources...)
	}
}

// Promises 15.1 and 15.2: all calls of every short name, against the model.
func TestOfAllShortNames(t *testing.T) {
	b := someBook()
	x, m := compiled(t, b), model{b}
	for length := range 5 {
		lists(length, []rune{97, 65, 66, 67, 70, 173, 223, 128, -1}, func(r []rune) { isAsModel(t, x, m, r) })
	}
	for length := range 3 {
		lists(length, somePoints(), func(r []rune) { isAsModel(t, x, m, r) })
	}
}

// Promise 15.1: Same, by hand, either way about.
func TestSame(t *testing.T) {
	x := compiled(t, someBook())
	for _, c := range []struct {
		a, b []rune
		want bool
	}{
		{nil, nil, true}, {nil, []rune{}, true}, {nil, []rune{173, 200}, true}, {nil, []rune{97}, false}, {nil, []rune{-1}, false}, {nil, []rune{0}, false},
		{[]rune{97}, []rune{65}, true}, {[]rune{97}, []rune{0, 173}, true}, {[]rune{97, 98}, []rune{97, 173, 98}, true}, {[]rune{97}, []rune{98}, false}, {[]rune{97}, []rune{97, 97}, false}, {[]rune{97, 98}, []rune{98, 97}, false},
		{[]rune{70}, []rune{120, 121}, true}, {[]rune{70, 71}, []rune{72, 120, 121}, true}, {[]rune{70}, []rune{121, 120}, false}, {[]rune{80}, []rune{46}, true},
		// Alike by normal form C alone, and by both together.
		{[]rune{66}, []rune{224}, true}, {[]rune{66}, []rune{65, 67}, true}, {[]rune{66, 803}, []rune{7841, 768}, true}, {[]rune{68}, []rune{69}, true}, {[]rune{97, 768, 803}, []rune{97, 803, 768}, true}, {[]rune{300}, []rune{65}, true}, {[]rune{78, 79}, []rune{44033}, true}, {[]rune{97, 768, 769}, []rune{97, 769, 768}, false},
		// A deviation is another one than what it is sometimes mapped to; so is what is disallowed, or no code point.
		{[]rune{223}, []rune{115, 115}, false}, {[]rune{223}, []rune{223}, true}, {[]rune{128}, []rune{76}, true}, {[]rune{128}, []rune{129}, false}, {[]rune{-1}, []rune{-1}, true}, {[]rune{-1}, []rune{65533}, false}, {[]rune{65}, []rune{65 + 0x110000}, false},
		// Mapped once only.
		{[]rune{74}, []rune{65}, false}, {[]rune{74}, []rune{74}, true}, {[]rune{75}, nil, false},
	} {
		if got := Same(x, c.a, c.b); got != c.want {
			t.Errorf("Same(%v, %v): %v", c.a, c.b, got)
		}
		if got := Same(x, c.b, c.a); got != c.want {
			t.Errorf("Same(%v, %v): %v", c.b, c.a, got)
		}
	}
}

// Promises 15.1 and 15.4: Same of every two short names is what the model's names in normal form C say, so that it is an equality.
func TestSameOfAllShortNames(t *testing.T) {
	b := someBook()
	x, m := compiled(t, b), model{b}
	var names [][]rune
	for length := range 4 {
		lists(length, []rune{65, 66, 67, 768, 173, 224}, func(r []rune) { names = append(names, slices.Clone(r)) })
	}
	folded := make([][]rune, len(names))
	for i, r := range names {
		folded[i] = compose.Normal(x, m.mapped(r))
	}
	many := 0
	for i, a := range names {
		for k, c := range names {
			want := slices.Equal(folded[i], folded[k])
			if got := Same(x, a, c); got != want {
				t.Errorf("Same(%v, %v): %v", a, c, got)
			}
			if want && !slices.Equal(a, c) {
				many++
			}
		}
	}
	if many < 300 {
		t.Errorf("only %d that are the same", many)
	}
}

// Promise 15.2: Disallowed, with none, one at each end, several, and what is no code point.
func TestDisallowed(t *testing.T) {
	x := compiled(t, someBook())
	for _, c := range []struct {
		r    []rune
		want []int
	}{
		{nil, nil}, {[]rune{}, nil}, {[]rune{97, 65, 173, 223, 189, 0, 0x10ffff}, nil},
		{[]rune{128}, []int{0}}, {[]rune{128, 97, 65}, []int{0}}, {[]rune{97, 65, 128}, []int{2}}, {[]rune{97, 128, 65}, []int{1}}, {[]rune{128, 97, 128}, []int{0, 2}}, {[]rune{128, 129, 130, 97, 1}, []int{0, 1, 2, 4}},
		{[]rune{-1, 97, 0x110000}, []int{0, 2}}, {[]rune{97, least, most, 98}, []int{1, 2}}, {[]rune{65 + 0x110000, 97 - 0x110000}, []int{0, 1}},
		{[]rune{0xd800, 0xd804, 0xd805, 0xdfff, 0xdffe}, []int{2, 4}},
		// The places of the name as it was typed, where something is ignored or grows; and what comes out is not asked.
		{[]rune{173, 70, 128, 77, 128}, []int{2, 4}}, {[]rune{76, 189}, nil}, {[]rune{8260}, []int{0}}, {[]rune{192, 300}, []int{0, 1}},
	} {
		isList(t, fmt.Sprintf("Disallowed(%v)", c.r), Disallowed(x, c.r), c.want...)
	}
}

// Promise 15.2: Deviations, likewise.
func TestDeviations(t *testing.T) {
	x := compiled(t, someBook())
	for _, c := range []struct {
		r    []rune
		want []int
	}{
		{nil, nil}, {[]rune{}, nil}, {[]rune{97, 65, 173, 128, -1, 202, 205, 0x10ffff, 0x10fffd}, nil},
		{[]rune{223}, []int{0}}, {[]rune{223, 97}, []int{0}}, {[]rune{97, 223}, []int{1}}, {[]rune{97, 223, 97}, []int{1}}, {[]rune{223, 97, 223}, []int{0, 2}}, {[]rune{203, 204, 223, 97, 0xd803, 0x10fffe}, []int{0, 1, 2, 4, 5}},
		{[]rune{223 + 0x110000, 223 - 0x110000}, nil},
		{[]rune{173, 70, 223, 77, 223}, []int{2, 4}}, {[]rune{0x10ffff}, nil}, {[]rune{79}, nil}, {[]rune{4520}, []int{0}},
	} {
		isList(t, fmt.Sprintf("Deviations(%v)", c.r), Deviations(x, c.r), c.want...)
	}
}

// Promise 15.2: Changes counts what is ignored or mapped, to itself too.
func TestChanges(t *testing.T) {
	x := compiled(t, someBook())
	for _, c := range []struct {
		r    []rune
		want int
	}{
		{nil, 0}, {[]rune{}, 0}, {[]rune{97, 223, 128, -1, most, 192}, 0},
		{[]rune{65}, 1}, {[]rune{173}, 1}, {[]rune{77}, 1}, {[]rune{70}, 1}, {[]rune{73}, 1}, {[]rune{0}, 1}, {[]rune{0x10ffff}, 1},
		{[]rune{65, 97, 173}, 2}, {[]rune{65, 65, 65}, 3}, {[]rune{173, 173, 66, 223, 128, 202}, 4}, {[]rune{75, 74}, 2}, {[]rune{0xd802, 0xd804, 0xd803}, 2}, {[]rune{65 + 0x110000}, 0},
		// What normal form C would change is no change of the mapping.
		{[]rune{97, 768}, 0}, {[]rune{300}, 0},
	} {
		if got := Changes(x, c.r); got != c.want {
			t.Errorf("Changes(%v): %d, not %d", c.r, got, c.want)
		}
	}
}

// Promise 15.2: Closed of no runes, of kept ones, and of one that is not kept, wherever it stands.
func TestClosed(t *testing.T) {
	x := compiled(t, someBook())
	if !Closed(x) || !Closed(x, []rune{}...) || !Closed(x, 97) || !Closed(x, 97, 45, 46, 48, 122) || !Closed(x, 223) || !Closed(x, 97, 223, 203, 0xd803, 0x10fffe, 0xd800) {
		t.Error("Closed: false of what is kept")
	}
	// Kept, though normal form C is another name.
	if !Closed(x, 97, 768, 803) {
		t.Error("Closed(97, 768, 803)")
	}
	// 73 stays as it is mapped to itself, and is not kept; so is what is disallowed, or no code point.
	for _, p := range []rune{65, 70, 77, 173, 200, 128, 192, 300, 73, 74, 0, 0x10ffff, 0xd802, 0xd804, 0xd805, -1, 0x110000, least, most, 97 + 0x110000, 97 - 0x110000} {
		if Closed(x, p) || Closed(x, p, 97, 98) || Closed(x, 97, p, 98) || Closed(x, 97, 98, p) {
			t.Errorf("Closed with %d: true", p)
		}
	}
}

// Nil tables are those of a book without rows: all is disallowed and stays, and Hangul alone composes.
func TestTablesWithoutRows(t *testing.T) {
	m := model{}
	for _, x := range []*book.Tables{nil, compiled(t, api.Book{}), new(book.Tables)} {
		isList(t, "Map", Map(x, []rune{65, 173, 189, 0, -1}), 65, 173, 189, 0, -1)
		isList(t, "Fold", Fold(x, []rune{65, 768, 4352, 4449, 4520}), 65, 768, 44033)
		isList(t, "Sources", Sources(x, []rune{65, 173, 4352, 4449}), 0, 1, 2, 3)
		isList(t, "Disallowed", Disallowed(x, []rune{97, 0, most}), 0, 1, 2)
		isList(t, "Deviations", Deviations(x, []rune{223, 97}))
		if Changes(x, []rune{65, 173}) != 0 || Closed(x, 97) || !Closed(x) {
			t.Error("Changes, Closed")
		}
		if !Same(x, []rune{4352, 4449}, []rune{44032}) || Same(x, []rune{65}, []rune{97}) || !Same(x, nil, []rune{}) {
			t.Error("Same")
		}
		for length := range 4 {
			lists(length, []rune{0, 65, 97, 173, 4352, 4449, -1}, func(r []rune) { isAsModel(t, x, m, r) })
		}
	}
}

// Promise 15.4: Map of two names, one behind the other, is both mapped, one behind the other.
func TestMapOfTwoNames(t *testing.T) {
	x := compiled(t, someBook())
	r := rand.New(rand.NewSource(151))
	of := somePoints()
	for range 5000 {
		a, c := randomName(r, 5, of), randomName(r, 5, of)
		isList(t, fmt.Sprintf("Map of %v and %v", a, c), Map(x, slices.Concat(a, c)), slices.Concat(Map(x, a), Map(x, c))...)
	}
}

// Promise 15.4: in sound books, of names in which nothing is disallowed, Map of Map is Map, Fold of Fold is Fold, what comes out is kept, and a name's Fold is Same as it.
func TestWhatFollowsOfSoundBooks(t *testing.T) {
	r := rand.New(rand.NewSource(152))
	changed, composed := 0, 0
	for range 100 {
		x, all := soundBook(t, r)
		for range 100 {
			l := randomName(r, 8, all)
			isList(t, fmt.Sprintf("Disallowed(%v)", l), Disallowed(x, l))
			isFixed(t, x, l)
			if Changes(x, l) > 0 {
				changed++
			}
			if !slices.Equal(Map(x, l), Fold(x, l)) {
				composed++
			}
		}
	}
	if changed < 3000 || composed < 1000 {
		t.Errorf("only %d that are changed, %d that are composed", changed, composed)
	}
}

// isFixed tells whether a name, mapped or folded, stays when it is so again, and is kept.
func isFixed(t *testing.T, x *book.Tables, l []rune) {
	t.Helper()
	mapped, folded := Map(x, l), Fold(x, l)
	isList(t, fmt.Sprintf("Map of Map of %v", l), Map(x, mapped), mapped...)
	isList(t, fmt.Sprintf("Map of Fold of %v", l), Map(x, folded), folded...)
	isList(t, fmt.Sprintf("Fold of Fold of %v", l), Fold(x, folded), folded...)
	isList(t, fmt.Sprintf("Fold of Map of %v", l), Fold(x, mapped), folded...)
	if !Closed(x, mapped...) || !Closed(x, folded...) || Changes(x, mapped) != 0 || Changes(x, folded) != 0 || len(Disallowed(x, folded)) != 0 {
		t.Errorf("what comes out of %v is not kept: %v, %v", l, mapped, folded)
	}
	if !Same(x, l, l) || !Same(x, l, mapped) || !Same(x, l, folded) || !Same(x, folded, l) || !Same(x, mapped, folded) {
		t.Errorf("%v is not the same as %v, %v", l, mapped, folded)
	}
}

// By the sample book: all runes by themselves and ones beside, against its rows; and that it is sound, and what follows.
func TestBySample(t *testing.T) {
	b := sample.Book()
	x, m := sample.Tables(), model{b}
	var all []rune
	for p := rune(-2); p <= api.MaxPoint+2; p++ {
		if p < 0x3100 || p > 0xabf0 && p < 0xac10 || p > 0xd700 && p < 0x10000 || p > 0x1d300 && p < 0x1f700 || p > 0xe0000 && p < 0xe0200 || p > api.MaxPoint-2 {
			isAsModel(t, x, m, []rune{p})
			isAsModel(t, x, m, []rune{'A', p, 0x300})
		} else if got := Map(x, []rune{p}); len(got) != 1 || got[0] != p {
			t.Errorf("Map(%x): %x", p, got)
		}
		if m.status(p) != api.StatusDisallowed {
			all = append(all, p)
		}
	}
	if rule, p, e := book.Sound(b); e != api.OK {
		t.Fatalf("Sound: %d, %x", rule, p)
	}
	r := rand.New(rand.NewSource(153))
	short := slices.DeleteFunc(slices.Clone(all), func(p rune) bool { return p > 0x330 && p < 0xfb00 })
	for range 2000 {
		isFixed(t, x, randomName(r, 10, all))
		isFixed(t, x, randomName(r, 10, short))
	}
}

// The chapter's examples.
func TestExamples(t *testing.T) {
	x := sample.Tables()
	isList(t, "Map(Ab 3002)", Map(x, []rune{'A', 'b', 0x3002}), 'a', 'b', '.')
	isList(t, "Map(173, 97)", Map(x, []rune{173, 97}), 97)
	isList(t, "Map(189)", Map(x, []rune{189}), 49, 8260, 50)
	isList(t, "Sources(189)", Sources(x, []rune{189}), 0, 0, 0)
	isList(t, "Fold(65, 768)", Fold(x, []rune{65, 768}), 224)
	isList(t, "Map(223)", Map(x, []rune{223}), 223)
	isList(t, "Disallowed(128, 97, -1)", Disallowed(x, []rune{128, 97, -1}), 0, 2)
	isList(t, "Deviations(223)", Deviations(x, []rune{223}), 0)
	if n := Changes(x, []rune{65, 173, 97}); n != 2 {
		t.Errorf("Changes(65, 173, 97): %d", n)
	}
	if !Closed(x, 97, 45) || Closed(x, 65) {
		t.Error("Closed")
	}
}

// Rule R1: long names, of which each code point gives way to nothing, to one or to many.
func TestLongNames(t *testing.T) {
	const many = 1 << 18
	x := compiled(t, someBook())
	r := slices.Concat(slices.Repeat([]rune{173}, many), slices.Repeat([]rune{66, 803}, many), slices.Repeat([]rune{77}, many), slices.Repeat([]rune{-1}, many))
	mapped, sources := Map(x, r), Sources(x, r)
	if len(mapped) != 22*many || len(sources) != 22*many {
		t.Fatalf("Map: %d, Sources: %d", len(mapped), len(sources))
	}
	if sources[0] != many || sources[3*many-1] != 3*many-1 || sources[3*many+17] != 3*many || sources[22*many-1] != len(r)-1 {
		t.Error("Sources")
	}
	if folded := Fold(x, r); len(folded) != 21*many || folded[0] != 7841 || folded[1] != 768 {
		t.Errorf("Fold: %d", len(folded))
	}
	if !Same(x, r, mapped) || Same(x, r, mapped[1:]) {
		t.Error("Same")
	}
	if l := Disallowed(x, r); len(l) != many || l[0] != 4*many {
		t.Errorf("Disallowed: %d", len(l))
	}
	if n := Changes(x, r); n != 3*many {
		t.Errorf("Changes: %d", n)
	}
	if Closed(x, r...) || !Closed(x, slices.Repeat([]rune{97}, many)...) {
		t.Error("Closed")
	}
}
