package bidi

import (
	"fmt"
	"math/rand"
	"slices"
	"testing"

	"postern/api"
	"postern/book"
	"postern/sample"
)

// isLabel holds all four calls of a label against what is told of it by hand.
func isLabel(t *testing.T, x *book.Tables, label []rune, right, strong bool, rules ...int) {
	t.Helper()
	first := 0
	if len(rules) != 0 {
		first = rules[0]
	}
	if got := Rules(x, label); !slices.Equal(got, rules) {
		t.Errorf("Rules(%v): %v, not %v", label, got, rules)
	}
	if got := Check(x, label); got != first {
		t.Errorf("Check(%v): %d, not %d", label, got, first)
	}
	if got := Right(x, label); got != right {
		t.Errorf("Right(%v): %v", label, got)
	}
	if got := Strong(x, label); got != strong {
		t.Errorf("Strong(%v): %v", label, got)
	}
}

// Promise 16.1: the empty label, and labels of one code point of each direction.
func TestShortest(t *testing.T) {
	x := compiled(t, someBook())
	isLabel(t, x, nil, false, false)
	isLabel(t, x, []rune{}, false, false)
	for n := range 23 {
		label := []rune{2000 + rune(n)}
		switch n {
		case 0: // L
			isLabel(t, x, label, false, false)
		case 1, 2: // R, AL
			isLabel(t, x, label, true, true)
		case 6: // AN
			isLabel(t, x, label, false, true, 1)
		default:
			isLabel(t, x, label, false, false, 1)
		}
	}
}

// Promise 16.1: labels that break none, each rule alone, and several, by hand.
func TestLabels(t *testing.T) {
	x := compiled(t, someBook())
	for _, c := range []struct {
		label         []rune
		right, strong bool
		rules         []int
	}{
		// None: of each direction that may be, in the midst and at the end.
		{[]rune{l, l, en, es, cs, et, on, bn, nsm, l}, false, false, nil}, {[]rune{l, en}, false, false, nil}, {[]rune{l, es, en}, false, false, nil},
		{[]rune{r, al, an, es, cs, et, on, bn, nsm, r}, true, true, nil}, {[]rune{al, r, en, es, cs, et, on, bn, nsm, al}, true, true, nil},
		{[]rune{r, en}, true, true, nil}, {[]rune{al, an}, true, true, nil}, {[]rune{r, al}, true, true, nil}, {[]rune{al, r}, true, true, nil}, {[]rune{al, es, en}, true, true, nil}, {[]rune{r, es, an}, true, true, nil},
		{[]rune{r, en, en}, true, true, nil}, {[]rune{r, an, an}, true, true, nil},
		// Rule 1, and so none of the others, whatever stands behind.
		{[]rune{en, r}, false, true, []int{1}}, {[]rune{en, l}, false, false, []int{1}}, {[]rune{es, l, r, en, an, ws, es}, false, true, []int{1}}, {[]rune{an, en}, false, true, []int{1}}, {[]rune{nsm, r}, false, true, []int{1}}, {[]rune{nsm, l}, false, false, []int{1}}, {[]rune{bn, al, l}, false, true, []int{1}}, {[]rune{ws, ws}, false, false, []int{1}}, {[]rune{on, es}, false, false, []int{1}},
		// Rule 2.
		{[]rune{r, l, r}, true, true, []int{2}}, {[]rune{al, ws, en}, true, true, []int{2}}, {[]rune{r, 2011, 2012, 2022, r, nsm}, true, true, []int{2}},
		// Rule 3.
		{[]rune{r, es}, true, true, []int{3}}, {[]rune{al, cs}, true, true, []int{3}}, {[]rune{r, et}, true, true, []int{3}}, {[]rune{r, bn}, true, true, []int{3}}, {[]rune{al, r, on}, true, true, []int{3}}, {[]rune{r, en, es}, true, true, []int{3}},
		// Rule 4: an EN and an AN, in either order.
		{[]rune{r, en, an}, true, true, []int{4}}, {[]rune{r, an, en}, true, true, []int{4}}, {[]rune{al, en, r, an, r}, true, true, []int{4}}, {[]rune{al, an, es, en, nsm}, true, true, []int{4}}, {[]rune{r, an, en, an, en}, true, true, []int{4}},
		// Rule 5: with an AN, an R, an AL, and what may be nowhere.
		{[]rune{l, an, l}, false, true, []int{5}}, {[]rune{l, r, l}, false, true, []int{5}}, {[]rune{l, al, en}, false, true, []int{5}}, {[]rune{l, ws, l}, false, false, []int{5}}, {[]rune{l, 2011, 2012, 2022, l, nsm}, false, false, []int{5}}, {[]rune{l, en, an, l}, false, true, []int{5}},
		// Rule 6.
		{[]rune{l, es}, false, false, []int{6}}, {[]rune{l, cs}, false, false, []int{6}}, {[]rune{l, et}, false, false, []int{6}}, {[]rune{l, bn}, false, false, []int{6}}, {[]rune{l, en, on}, false, false, []int{6}},
		// Several.
		{[]rune{r, l}, true, true, []int{2, 3}}, {[]rune{r, ws}, true, true, []int{2, 3}}, {[]rune{al, l, en, an}, true, true, []int{2, 4}}, {[]rune{al, en, an, es}, true, true, []int{3, 4}}, {[]rune{r, an, en, l}, true, true, []int{2, 3, 4}}, {[]rune{r, l, an, en, on, nsm}, true, true, []int{2, 3, 4}},
		{[]rune{l, r}, false, true, []int{5, 6}}, {[]rune{l, an}, false, true, []int{5, 6}}, {[]rune{l, al}, false, true, []int{5, 6}}, {[]rune{l, ws}, false, false, []int{5, 6}}, {[]rune{l, r, es}, false, true, []int{5, 6}},
		// NSM at the end, ahead of the last one, and both.
		{[]rune{l, nsm}, false, false, nil}, {[]rune{l, nsm, nsm, nsm}, false, false, nil}, {[]rune{r, nsm, nsm}, true, true, nil}, {[]rune{al, an, nsm}, true, true, nil}, {[]rune{l, nsm, en}, false, false, nil}, {[]rune{r, nsm, es}, true, true, []int{3}}, {[]rune{r, es, nsm}, true, true, []int{3}}, {[]rune{l, es, nsm, nsm}, false, false, []int{6}}, {[]rune{l, nsm, es, nsm}, false, false, []int{6}}, {[]rune{l, r, nsm}, false, true, []int{5, 6}},
		// NSM alone, and at the front.
		{[]rune{nsm}, false, false, []int{1}}, {[]rune{nsm, nsm}, false, false, []int{1}}, {[]rune{nsm, l, nsm}, false, false, []int{1}}, {[]rune{nsm, r, nsm}, false, true, []int{1}},
		// What is no code point is L; of surrogates holds what the book says of them.
		{[]rune{-1}, false, false, nil}, {[]rune{0x110000}, false, false, nil}, {[]rune{least, most, en}, false, false, nil}, {[]rune{r, -1}, true, true, []int{2, 3}}, {[]rune{r, 0x110000, r}, true, true, []int{2}}, {[]rune{-1, r}, false, true, []int{5, 6}}, {[]rune{r + 0x110000, r - 0x110000, es + 0x110000}, false, false, nil},
		{[]rune{0xd800}, true, true, nil}, {[]rune{0xd802, 0xdc00}, false, false, nil}, {[]rune{0xd801, 0xd802}, true, true, []int{2, 3}}, {[]rune{0xdbff}, false, false, []int{1}}, {[]rune{0xd7ff, 0xdbff}, false, false, nil}, {[]rune{0xe000, 0xdfff, 0xe000}, false, false, []int{5}},
		{[]rune{0}, false, true, []int{1}}, {[]rune{0x10ffff, 0}, true, true, nil}, {[]rune{1, 0x10fffe}, false, false, nil},
	} {
		isLabel(t, x, c.label, c.right, c.strong, c.rules...)
	}
}

// Promise 16.1: all calls of every short label, against the model.
func TestOfAllShortLabels(t *testing.T) {
	b := someBook()
	x, m := compiled(t, b), model{b}
	var each []rune
	for n := range 23 {
		each = append(each, 2000+rune(n))
	}
	for length := range 4 {
		lists(length, each, func(label []rune) { isAsModel(t, x, m, label) })
	}
	for length := range 6 {
		lists(length, []rune{l, r, en, an, es, nsm, ws}, func(label []rune) { isAsModel(t, x, m, label) })
	}
	for length := range 3 {
		lists(length, somePoints(), func(label []rune) { isAsModel(t, x, m, label) })
	}
}

// Promise 16.1: long labels of all kinds, and of the sample book.
func TestOfMany(t *testing.T) {
	from := rand.New(rand.NewSource(161))
	given := sample.Book()
	for _, c := range []struct {
		book api.Book
		of   []rune
	}{
		{someBook(), somePoints()}, {someBook(), []rune{r, al, en, es, nsm}}, {someBook(), []rune{l, en, nsm, on}}, {someBook(), []rune{r, r, r, r, r, en, an, es}},
		{given, []rune{'a', '0', '-', '.', ' ', 0xb7, 0x300, 0x5b0, 0x5d0, 0x5ea, 0x627, 0x64b, 0x660, 0x6f0, 0x93c, 0x200d, 0x4e00, 0x1f600, 0xe0100}}, {given, []rune{0x5d0, 0x627, '0', 0x660, '-', 0x5b0}},
	} {
		x, m := compiled(t, c.book), model{c.book}
		for range 2000 {
			isAsModel(t, x, m, randomLabel(from, 20, c.of))
		}
	}
}

// Promise 16.1: by a book without rows, and by nil tables, all is L, so that no label breaks a rule.
func TestWithoutRows(t *testing.T) {
	for _, x := range []*book.Tables{nil, compiled(t, api.Book{}), new(book.Tables)} {
		lists(2, somePoints(), func(label []rune) {
			isLabel(t, x, label, false, false)
			isName(t, x, [][]rune{label, nil, label}, api.Bidi{})
		})
		isLabel(t, x, nil, false, false)
		isName(t, x, nil, api.Bidi{})
	}
}

// Promise 16.2: Name by hand.
func TestName(t *testing.T) {
	x := compiled(t, someBook())
	latin, hebrew, arabic, digit, hyphen, mark := []rune{l}, []rune{r}, []rune{al}, []rune{en}, []rune{l, es}, []rune{nsm}
	for _, c := range []struct {
		labels [][]rune
		want   api.Bidi
	}{
		// No labels, and empty ones.
		{nil, api.Bidi{}}, {[][]rune{}, api.Bidi{}}, {[][]rune{nil}, api.Bidi{}}, {[][]rune{{}, nil, {}}, api.Bidi{}},
		// None has an R, AL or AN: whatever else breaks a rule.
		{[][]rune{latin}, api.Bidi{}}, {[][]rune{digit}, api.Bidi{}}, {[][]rune{hyphen, digit, mark, {ws}, nil, {l, ws}}, api.Bidi{}}, {[][]rune{{-1, most}, {es, en}}, api.Bidi{}},
		// One alone has one, at the front, in the midst, at the end, and no rule is broken.
		{[][]rune{hebrew, latin, latin}, api.Bidi{Bidi: true}}, {[][]rune{latin, arabic, latin}, api.Bidi{Bidi: true}}, {[][]rune{latin, latin, hebrew}, api.Bidi{Bidi: true}}, {[][]rune{{r, an}}, api.Bidi{Bidi: true}}, {[][]rune{nil, arabic, {}}, api.Bidi{Bidi: true}},
		// An AN alone makes a bidi name, though its label breaks a rule; and so does one at a label's end.
		{[][]rune{latin, {an}}, api.Bidi{Bidi: true, Label: 1, Rule: 1}}, {[][]rune{{l, an, l}}, api.Bidi{Bidi: true, Rule: 5}}, {[][]rune{latin, {l, l, r}, latin}, api.Bidi{Bidi: true, Label: 1, Rule: 5}},
		// The label that breaks a rule has none of them itself, ahead of the one that does, or behind it.
		{[][]rune{digit, hebrew}, api.Bidi{Bidi: true, Rule: 1}}, {[][]rune{hebrew, digit}, api.Bidi{Bidi: true, Label: 1, Rule: 1}}, {[][]rune{latin, nil, hyphen, nil, arabic}, api.Bidi{Bidi: true, Label: 2, Rule: 6}}, {[][]rune{{r, an}, latin, {l, ws, l}}, api.Bidi{Bidi: true, Label: 2, Rule: 5}}, {[][]rune{hebrew, nil, mark}, api.Bidi{Bidi: true, Label: 2, Rule: 1}},
		// Several break rules: the first is told, with the least of its rules.
		{[][]rune{hyphen, digit, hebrew}, api.Bidi{Bidi: true, Rule: 6}}, {[][]rune{latin, {r, l}, digit}, api.Bidi{Bidi: true, Label: 1, Rule: 2}}, {[][]rune{hebrew, {r, en, an, es}, {r, l}, digit}, api.Bidi{Bidi: true, Label: 1, Rule: 3}}, {[][]rune{arabic, {r, en, an}, {l, r}}, api.Bidi{Bidi: true, Label: 1, Rule: 4}}, {[][]rune{{l, r}, {en}}, api.Bidi{Bidi: true, Rule: 5}},
		// The rule about EN and AN is asked of each label by itself.
		{[][]rune{{r, en}, {r, an}}, api.Bidi{Bidi: true}},
	} {
		isName(t, x, c.labels, c.want)
		if got := (model{someBook()}).name(c.labels); got != c.want {
			t.Errorf("the model's name of %v: %v", c.labels, got)
		}
	}
}

// Promise 16.2: names of every few of some labels, against the model.
func TestNameOfAllFewLabels(t *testing.T) {
	b := someBook()
	x, m := compiled(t, b), model{b}
	some := [][]rune{nil, {l}, {r}, {al, en}, {an}, {en}, {l, es}, {r, l}, {r, es}, {r, en, an}, {l, r}, {nsm}, {-1}}
	for many := range 5 {
		lists(many, some, func(labels [][]rune) { isName(t, x, labels, m.name(labels)) })
	}
	from := rand.New(rand.NewSource(162))
	for range 3000 {
		labels := make([][]rune, from.Intn(8))
		for i := range labels {
			labels[i] = randomLabel(from, 5, []rune{l, l, r, en, nsm})
		}
		isName(t, x, labels, m.name(labels))
	}
}

// Promise 16.3: what follows, of every short label.
func TestWhatFollows(t *testing.T) {
	b := someBook()
	x, m := compiled(t, b), model{b}
	for length := range 5 {
		lists(length, []rune{l, r, al, en, an, es, nsm, ws}, func(label []rune) {
			broken := Rules(x, label)
			if !slices.IsSorted(broken) || len(slices.Compact(slices.Clone(broken))) != len(broken) {
				t.Errorf("Rules(%v) do not rise: %v", label, broken)
			}
			switch {
			case len(broken) != 0 || length == 0:
			case Right(x, label):
				if slices.ContainsFunc(label, func(p rune) bool { return m.direction(p) == api.BidiL }) {
					t.Errorf("%v has an L", label)
				}
			case Strong(x, label):
				t.Errorf("%v has an R, AL or AN", label)
			}
			if length == 0 {
				return
			}
			for _, more := range []int{1, 2, 100} {
				longer := slices.Concat(label, slices.Repeat([]rune{nsm}, more))
				isLabel(t, x, longer, Right(x, label), Strong(x, label), broken...)
			}
		})
	}
}

// Promise 16.3: the labels turned about: the name breaks a rule as it did.
func TestTurnedAbout(t *testing.T) {
	x := compiled(t, someBook())
	some := [][]rune{nil, {l}, {r}, {al, en}, {an}, {en}, {l, es}, {r, en, an}}
	for many := range 5 {
		lists(many, some, func(labels [][]rune) {
			about := slices.Clone(labels)
			slices.Reverse(about)
			one, other := Name(x, labels), Name(x, about)
			if one.Bidi != other.Bidi || (one.Rule == 0) != (other.Rule == 0) {
				t.Errorf("%v: %v, turned about %v", labels, one, other)
			}
		})
	}
}

// Promises 16.1 and 16.2: the chapter's examples.
func TestExamples(t *testing.T) {
	x := compiled(t, api.Book{Bidi: []api.Value{value(45, api.BidiES), {From: 48, To: 57, N: api.BidiEN}, {From: 768, To: 879, N: api.BidiNSM}, {From: 1488, To: 1514, N: api.BidiR}, {From: 1569, To: 1610, N: api.BidiAL}, {From: 1632, To: 1641, N: api.BidiAN}}})
	for _, c := range []struct {
		label []rune
		want  int
	}{{[]rune{1488, 48}, 0}, {[]rune{48, 1488}, 1}, {[]rune{1488, 97}, 2}, {[]rune{1488, 45}, 3}, {[]rune{1488, 48, 1632, 1488}, 4}, {[]rune{97, 1488}, 5}, {[]rune{97, 45}, 6}, {[]rune{97, 768}, 0}, {[]rune{768}, 1}} {
		if got := Check(x, c.label); got != c.want {
			t.Errorf("Check(%v): %d, not %d", c.label, got, c.want)
		}
	}
	isName(t, x, [][]rune{{97}, {1488}}, api.Bidi{Bidi: true})
	isName(t, x, [][]rune{{97, 45}, {1488}}, api.Bidi{Bidi: true, Rule: 6})
	isName(t, x, [][]rune{{97, 45}}, api.Bidi{})
	if got := Rules(x, []rune{1488, 97, 45}); !slices.Equal(got, []int{2, 3}) {
		t.Errorf("Rules: %v", got)
	}
}

// Promise 16.2: names by the sample book.
func TestSample(t *testing.T) {
	x := sample.Tables()
	for _, c := range []struct {
		labels [][]rune
		want   api.Bidi
	}{
		{[][]rune{[]rune("example"), []rune("com")}, api.Bidi{}}, {[][]rune{[]rune("1-"), []rune("-")}, api.Bidi{}},
		{[][]rune{{0x5d0, 0x5d1}, []rune("com")}, api.Bidi{Bidi: true}}, {[][]rune{{0x5d0, 0x5d1, 'a'}}, api.Bidi{Bidi: true, Rule: 2}}, {[][]rune{[]rune("a1"), {0x627, 0x660, 0x64b}}, api.Bidi{Bidi: true}}, {[][]rune{[]rune("1a"), {0x627}}, api.Bidi{Bidi: true, Rule: 1}}, {[][]rune{{0x627, 0x6f0}, {0x5d0, '1', 0x660}}, api.Bidi{Bidi: true, Label: 1, Rule: 4}},
	} {
		isName(t, x, c.labels, c.want)
	}
}

// Rule R1: long labels and names of many labels.
func TestLong(t *testing.T) {
	const many = 1 << 20
	x := compiled(t, someBook())
	for _, c := range []struct {
		label         []rune
		right, strong bool
		rules         []int
	}{
		{slices.Repeat([]rune{nsm}, many), false, false, []int{1}}, {slices.Concat([]rune{l}, slices.Repeat([]rune{nsm}, many)), false, false, nil}, {slices.Concat([]rune{r, es}, slices.Repeat([]rune{nsm}, many)), true, true, []int{3}}, {slices.Concat([]rune{r, an}, slices.Repeat([]rune{ws}, many), []rune{en}), true, true, []int{2, 4}}, {slices.Concat(slices.Repeat([]rune{l}, many), []rune{an}), false, true, []int{5, 6}},
	} {
		t.Run(fmt.Sprint(c.rules), func(t *testing.T) { isLabel(t, x, c.label, c.right, c.strong, c.rules...) })
	}
	labels := slices.Repeat([][]rune{{l}, nil, {r}}, many)
	isName(t, x, labels, api.Bidi{Bidi: true})
	labels = append(labels, []rune{en})
	isName(t, x, labels, api.Bidi{Bidi: true, Label: 3 * many, Rule: 1})
}
