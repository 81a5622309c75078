package sample

import (
	"slices"
	"strconv"
	"strings"
	"testing"

	"postern/api"
)

// points is how many code points there are.
const points = 1114112

// entry is a line of the sample, cut by hand: the book is held against it without layers 9 and 10.
type entry struct {
	kind     string
	from, to rune
	behind   string
}

func entries(t *testing.T) []entry {
	t.Helper()
	text, ended := strings.CutSuffix(api.Sample, "\n")
	if !ended {
		t.Fatal("the last line has no end")
	}
	var out []entry
	for _, s := range strings.Split(text, "\n") {
		fields := append(strings.Split(s, "; "), "")
		from, to, two := strings.Cut(fields[1], "..")
		if !two {
			to = from
		}
		out = append(out, entry{fields[0], number(t, from), number(t, to), fields[2]})
	}
	return out
}

// number is a number to the base 16.
func number(t *testing.T, s string) rune {
	t.Helper()
	n, err := strconv.ParseInt(s, 16, 32)
	if err != nil {
		t.Fatal(err)
	}
	return rune(n)
}

// numbers is numbers to the base 16 with blanks between.
func numbers(t *testing.T, s string) []rune {
	t.Helper()
	var out []rune
	for _, field := range strings.Fields(s) {
		out = append(out, number(t, field))
	}
	return out
}

// place is the place of a word among some.
func place(t *testing.T, s string, among string) int {
	t.Helper()
	n := slices.Index(strings.Fields(among), s)
	if n < 0 {
		t.Fatalf("%q is none of %s", s, among)
	}
	return n
}

const (
	directions = "L R AL EN ES ET AN CS NSM BN ON B S WS LRE LRO RLE RLO PDF LRI RLI FSI PDI"
	joinings   = "U L R D T C"
	// scripts is the names in the order in which the lines have them first.
	scripts = "Latin Greek Cyrillic Hebrew Arabic Devanagari Hangul Hiragana Katakana Han"
)

// wantBook is the book that the entries say.
func wantBook(t *testing.T) api.Book {
	t.Helper()
	b := api.Book{Names: strings.Fields(scripts)}
	for _, x := range entries(t) {
		s := api.Span{From: x.from, To: x.to}
		value := func(n int) api.Value { return api.Value{From: x.from, To: x.to, N: n} }
		chars := func() api.Chars { return api.Chars{From: x.from, To: x.to, Is: numbers(t, x.behind)} }
		switch x.kind {
		case "valid":
			b.Status = append(b.Status, value(1))
		case "ignored":
			b.Status = append(b.Status, value(2))
		case "deviation":
			b.Status = append(b.Status, value(3))
		case "mapped":
			b.Maps = append(b.Maps, chars())
		case "class":
			n, err := strconv.Atoi(x.behind)
			if err != nil {
				t.Fatal(err)
			}
			b.Class = append(b.Class, value(n))
		case "decomposed":
			b.Decomp = append(b.Decomp, chars())
		case "excluded":
			b.Excluded = append(b.Excluded, s)
		case "bidi":
			b.Bidi = append(b.Bidi, value(place(t, x.behind, directions)))
		case "joining":
			b.Join = append(b.Join, value(place(t, x.behind, joinings)))
		case "mark":
			b.Marks = append(b.Marks, s)
		case "script":
			b.Script = append(b.Script, value(1+place(t, x.behind, scripts)))
		case "like":
			b.Like = append(b.Like, chars())
		default:
			t.Fatalf("no kind: %q", x.kind)
		}
	}
	return b
}

// world is what the entries say of code points; of one that is not there, nothing.
type world map[rune]api.Point

func worldOf(t *testing.T) world {
	t.Helper()
	w, b := make(world), wantBook(t)
	paint := func(from, to rune, say func(*api.Point)) {
		for p := from; p <= to; p++ {
			x := w[p]
			say(&x)
			w[p] = x
		}
	}
	values := func(rows []api.Value, say func(*api.Point, int)) {
		for _, r := range rows {
			paint(r.From, r.To, func(x *api.Point) { say(x, r.N) })
		}
	}
	chars := func(rows []api.Chars, say func(*api.Point, []rune)) {
		for _, r := range rows {
			paint(r.From, r.To, func(x *api.Point) { say(x, r.Is) })
		}
	}
	spans := func(rows []api.Span, say func(*api.Point)) {
		for _, r := range rows {
			paint(r.From, r.To, say)
		}
	}
	values(b.Status, func(x *api.Point, n int) { x.Status = n })
	chars(b.Maps, func(x *api.Point, is []rune) { x.Status, x.Map = 4, is })
	values(b.Class, func(x *api.Point, n int) { x.Class = n })
	chars(b.Decomp, func(x *api.Point, is []rune) { x.Parts = is })
	spans(b.Excluded, func(x *api.Point) { x.Excluded = true })
	values(b.Bidi, func(x *api.Point, n int) { x.Bidi = n })
	values(b.Join, func(x *api.Point, n int) { x.Join = n })
	spans(b.Marks, func(x *api.Point) { x.Mark = true })
	values(b.Script, func(x *api.Point, n int) { x.Script = n })
	chars(b.Like, func(x *api.Point, is []rune) { x.Like = is })
	return w
}

func samePoint(x, y api.Point) bool {
	return x.Status == y.Status && slices.Equal(x.Map, y.Map) && x.Class == y.Class && slices.Equal(x.Parts, y.Parts) && x.Excluded == y.Excluded &&
		x.Bidi == y.Bidi && x.Join == y.Join && x.Mark == y.Mark && x.Script == y.Script && slices.Equal(x.Like, y.Like)
}

func sameBook(a, b api.Book) bool {
	return slices.Equal(a.Names, b.Names) && slices.Equal(a.Status, b.Status) && sameChars(a.Maps, b.Maps) && slices.Equal(a.Class, b.Class) && sameChars(a.Decomp, b.Decomp) && slices.Equal(a.Excluded, b.Excluded) &&
		slices.Equal(a.Bidi, b.Bidi) && slices.Equal(a.Join, b.Join) && slices.Equal(a.Marks, b.Marks) && slices.Equal(a.Script, b.Script) && sameChars(a.Like, b.Like)
}

func sameChars(a, b []api.Chars) bool {
	return slices.EqualFunc(a, b, func(x, y api.Chars) bool { return x.From == y.From && x.To == y.To && slices.Equal(x.Is, y.Is) })
}
