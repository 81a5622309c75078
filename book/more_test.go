package book

import (
	"fmt"
	"math/rand"
	"slices"
	"testing"

	"postern/api"
	"postern/span"
)

// someSet is a set of code points, crowded where rows are.
func someSet(r *rand.Rand) []api.Span {
	var l []api.Span
	for _, x := range some(r, r.Intn(20)) {
		l = append(l, api.Span{From: x.from, To: x.to})
	}
	x, _, _ := span.Make(l...)
	return x
}

// noSets is lists that are no sets.
func noSets() [][]api.Span {
	many := make([]api.Span, 65537)
	for i := range many {
		many[i] = api.Span{From: rune(2 * i), To: rune(2 * i)}
	}
	return [][]api.Span{{{From: 5, To: 4}}, {{From: -1, To: 4}}, {{From: 4, To: points}}, {{From: 1, To: 2}, {From: 3, To: 4}}, {{From: 1, To: 2}, {From: 2, To: 4}}, {{From: 5, To: 5}, {From: 1, To: 1}}, many}
}

// Promise 10.7: what is no set.
func TestNoSet(t *testing.T) {
	for _, x := range noSets() {
		for _, b := range []api.Book{{}, sample()} {
			if c, e := Restrict(b, x); !sameBook(c, api.Book{}) || e != api.ErrSpan {
				t.Errorf("Restrict to %.100v: %v, %d", x, c, e)
			}
			if c, e := Closure(b, x); len(c) != 0 || e != api.ErrSpan {
				t.Errorf("Closure of %.100v: %v, %d", x, c, e)
			}
		}
		isWrongAt(t, "a book that may not be", addRow(api.Book{}, api.ListMarks, 5, 4, 0), 9, 0)
		if _, e := Restrict(addRow(api.Book{}, api.ListMarks, 5, 4, 0), x); e != api.ErrBook {
			t.Errorf("Restrict of what may not be to what is no set: %d", e)
		}
		if _, e := Closure(addRow(api.Book{}, api.ListMarks, 5, 4, 0), x); e != api.ErrBook {
			t.Errorf("Closure of what may not be and of what is no set: %d", e)
		}
	}
}

// wantDiffer is Differ, code point by code point.
func wantDiffer(v, w *world) []api.Span {
	return setBy(func(p rune) bool {
		x, y := v.point(p), w.point(p)
		x.Script, y.Script = 0, 0
		return !samePoint(x, y) || v.name(p) != w.name(p)
	})
}

// differs holds Differ of two books against the worlds, both ways about.
func differs(t *testing.T, what string, a, b api.Book) {
	t.Helper()
	v, w := worldOf(a), worldOf(b)
	want := wantDiffer(v, w)
	for _, c := range [][2]api.Book{{a, b}, {b, a}} {
		if x, e := Differ(c[0], c[1]); !slices.Equal(x, want) || e != api.OK {
			t.Fatalf("%s: Differ(%.2000v, %.2000v): %v, %d, not %v", what, c[0], c[1], x, e, want)
		}
	}
	for _, c := range []api.Book{a, b} {
		if x, e := Differ(c, c); len(x) != 0 || e != api.OK {
			t.Fatalf("%s: Differ of a book and itself: %v, %d", what, x, e)
		}
	}
}

// Promise 10.7: Differ of many books.
func TestDifferOfMany(t *testing.T) {
	r := rand.New(rand.NewSource(107))
	for i := range 16 {
		a := someBook(r)
		b := someBook(r)
		if i%2 == 0 { // near to the first one
			b = a
			for list := 2; list <= 11; list++ {
				if l := rowsOf(b, list); len(l) > 0 && r.Intn(2) == 0 {
					at := r.Intn(len(l))
					b = setRows(b, list, slices.Delete(l, at, at+1))
				}
			}
		}
		t.Run(fmt.Sprint(i), func(t *testing.T) {
			t.Parallel()
			differs(t, "some", a, b)
		})
	}
	differs(t, "the sample and nothing", sample(), api.Book{})
	differs(t, "wide and the sample", wideBook(), sample())
}

// Promise 10.7: Differ in one thing each, and in nothing.
func TestDiffer(t *testing.T) {
	base := wideBook()
	for _, c := range []struct {
		what string
		b    api.Book
		want []api.Span
	}{
		{"nothing", base, nil},
		{"a status", as(base, 128, 129, 1), []api.Span{{From: 128, To: 129}}},
		{"a status and a map", as(base, 126, 133, 1), []api.Span{{From: 128, To: 133}}},
		{"another map", as(base, 200, 201, 4, 5), []api.Span{{From: 200, To: 201}}},
		{"a map cut, but the same", as(base, 50, 52, 4, 97), nil},
		{"a class", putRow(base, 4, row{800, 802, 2, nil}), []api.Span{{From: 800, To: 802}}},
		{"other parts", with(base, 5, 1000, 0, 40), []api.Span{{From: 1000, To: 1000}}},
		{"parts turned about", with(base, 5, 1000, 0, 768, 40), []api.Span{{From: 1000, To: 1000}}},
		{"excluded", with(base, 6, last-1, 0), []api.Span{{From: last - 1, To: last - 1}}},
		{"a direction", putRow(base, 7, row{140, 140, 0, nil}), nil},
		{"a direction of 0 where there was one", putRow(base, 7, row{130, 131, 0, nil}), []api.Span{{From: 130, To: 131}}},
		{"a joining", putRow(base, 8, row{last, last, 5, nil}), []api.Span{{From: last, To: last}}},
		{"a joining of 0", putRow(base, 8, row{last - 9, last, 0, nil}), nil},
		{"marks", with(base, 9, 500, 0), []api.Span{{From: 500, To: 500}}},
		{"a script", putRow(base, 10, row{0, 2, 64, nil}), []api.Span{{From: 0, To: 2}}},
		{"a likeness", putRow(base, 11, row{0, 0, 0, []rune{0, 0}}), []api.Span{{From: 0, To: 0}}},
		{"two neighbours in unlike things", with(with(base, 9, 500, 0), 6, 501, 0), []api.Span{{From: 500, To: 501}}},
		{"all", as(setRows(base, 2, nil), 0, last, 2), []api.Span{{From: 0, To: 127}, {From: 131, To: 0xd7ff}, {From: 0xe000, To: last}}},
	} {
		for _, d := range [][2]api.Book{{base, c.b}, {c.b, base}} {
			if x, e := Differ(d[0], d[1]); !slices.Equal(x, c.want) || e != api.OK {
				t.Errorf("%s: %v, %d, not %v", c.what, x, e, c.want)
			}
		}
	}
}

// Promise 10.7: numbers of scripts count as their names.
func TestDifferNames(t *testing.T) {
	a := api.Book{Names: []string{"Latin", "Greek", "Han"}, Script: []api.Value{{From: 1, To: 1, N: 1}, {From: 2, To: 2, N: 2}}}
	b := api.Book{Names: []string{"Greek", "Latin"}, Script: []api.Value{{From: 1, To: 1, N: 2}, {From: 2, To: 2, N: 1}}}
	c := api.Book{Names: []string{"Latin", "greek"}, Script: []api.Value{{From: 1, To: 1, N: 1}, {From: 2, To: 3, N: 2}}}
	d := api.Book{Names: []string{"Greek", "Latin"}, Script: []api.Value{{From: 1, To: 1, N: 1}, {From: 2, To: 2, N: 2}}}
	for i, x := range []struct {
		a, b api.Book
		want []api.Span
	}{{a, b, nil}, {b, a, nil}, {a, c, []api.Span{{From: 2, To: 3}}}, {c, a, []api.Span{{From: 2, To: 3}}}, {a, d, []api.Span{{From: 1, To: 2}}}, {b, d, []api.Span{{From: 1, To: 2}}}, {a, api.Book{}, []api.Span{{From: 1, To: 2}}}, {api.Book{Names: []string{"Latin"}}, api.Book{}, nil}} {
		if l, e := Differ(x.a, x.b); !slices.Equal(l, x.want) || e != api.OK {
			t.Errorf("at %d: %v, %d, not %v", i, l, e, x.want)
		}
	}
}

// Promise 10.7: more than MaxSpans spans.
func TestManySpans(t *testing.T) {
	a, b := fullBook(), api.Book{}
	for i := range rune(65536) {
		b.Marks = append(b.Marks, api.Span{From: 0x50000 + 2*i, To: 0x50000 + 2*i})
	}
	for list := 2; list <= 11; list++ {
		if list != api.ListMarks {
			a = setRows(a, list, nil)
		}
	}
	x, e := Differ(a, b)
	if len(x) != 131072 || e != api.OK {
		t.Fatalf("Differ: %d spans, %d", len(x), e)
	}
	for i, s := range x {
		from := 0x20001 + 2*rune(i)
		if i >= 65536 {
			from = 0x50000 + 2*rune(i-65536)
		}
		if s != (api.Span{From: from, To: from}) {
			t.Fatalf("Differ at %d: %v", i, s)
		}
	}
	c := api.Book{}
	for i := range rune(65536) {
		c.Maps = append(c.Maps, api.Chars{From: 0x20000 + 2*i, To: 0x20000 + 2*i, Is: []rune{0x50000 + 2*i}})
	}
	y := make([]api.Span, 65536)
	for i := range y {
		y[i] = api.Span{From: c.Maps[i].From, To: c.Maps[i].From}
	}
	z, e := Closure(c, y)
	if len(z) != 131072 || e != api.OK || z[131071] != (api.Span{From: 0x50000 + 131070, To: 0x50000 + 131070}) {
		t.Fatalf("Closure: %d spans, %d", len(z), e)
	}
}

// wantRestrict is Restrict, row by row and code point by code point.
func wantRestrict(b api.Book, x []api.Span) api.Book {
	in := func(p rune) bool {
		return slices.ContainsFunc(x, func(s api.Span) bool { return s.From <= p && p <= s.To })
	}
	out := api.Book{Names: b.Names}
	for list := 2; list <= 11; list++ {
		var l []row
		for _, r := range rowsOf(b, list) {
			new := true
			for p := r.from; p <= r.to; p++ {
				switch {
				case !in(p):
					new = true
				case new:
					l = append(l, row{p, p, r.n, r.is})
					new = false
				default:
					l[len(l)-1].to = p
				}
			}
		}
		out = setRows(out, list, l)
	}
	return out
}

// Promises 10.7 and 10.9: Restrict of many books to many sets.
func TestRestrictOfMany(t *testing.T) {
	r := rand.New(rand.NewSource(108))
	for i := range 400 {
		b, x := someBook(r), someSet(r)
		switch i % 20 {
		case 0:
			x = nil
		case 1:
			x = []api.Span{{From: 0, To: last}}
		case 2:
			b, x = sample(), []api.Span{{From: 65, To: 70}, {From: 97, To: 97}, {From: 768, To: 770}, {From: 0x4e10, To: 0x4e20}, {From: 0x1f600, To: last}}
		}
		c, e := Restrict(b, x)
		if !sameBook(c, wantRestrict(b, x)) || e != api.OK {
			t.Fatalf("Restrict(%v, %v): %v, %d", b, x, c, e)
		}
		d, e := Differ(b, c)
		if cross, f := span.Cross(d, x); len(cross) != 0 || e != api.OK || f != api.OK {
			t.Fatalf("Restrict(%v, %v) differs at %v", b, x, cross)
		}
		if again, e := Restrict(c, x); !sameBook(again, c) || e != api.OK {
			t.Fatalf("Restrict of Restrict(%v, %v): %v, %d", b, x, again, e)
		}
	}
}

// Promise 10.7: Restrict to nothing, to all, to sets that cut rows, with more rows than a book may have.
func TestRestrict(t *testing.T) {
	for _, b := range []api.Book{wideBook(), sample(), {}} {
		if c, e := Restrict(b, nil); !sameBook(c, api.Book{Names: b.Names}) || e != api.OK {
			t.Errorf("to nothing: %v, %d", c, e)
		}
		if c, e := Restrict(b, []api.Span{{From: 0, To: last}}); !sameBook(c, b) || e != api.OK {
			t.Errorf("to all: %v, %d", c, e)
		}
	}
	b := api.Book{Names: []string{"a", "b"}, Status: []api.Value{{From: 10, To: 20, N: 1}, {From: 21, To: 30, N: 1}, {From: 40, To: 40, N: 2}}, Marks: []api.Span{{From: 10, To: 20}, {From: 21, To: 30}}, Script: []api.Value{{From: 5, To: 50, N: 2}}}
	want := api.Book{Names: []string{"a", "b"}, Status: []api.Value{{From: 10, To: 12, N: 1}, {From: 14, To: 20, N: 1}, {From: 21, To: 22, N: 1}, {From: 30, To: 30, N: 1}, {From: 40, To: 40, N: 2}}, Marks: []api.Span{{From: 10, To: 12}, {From: 14, To: 20}, {From: 21, To: 22}, {From: 30, To: 30}}, Script: []api.Value{{From: 5, To: 12, N: 2}, {From: 14, To: 22, N: 2}, {From: 30, To: 50, N: 2}}}
	if c, e := Restrict(b, []api.Span{{From: 0, To: 12}, {From: 14, To: 22}, {From: 30, To: 60}}); !sameBook(c, want) || e != api.OK {
		t.Errorf("cut: %v, %d", c, e)
	}
	x := make([]api.Span, 65536)
	for i := range x {
		x[i] = api.Span{From: rune(2 * i), To: rune(2 * i)}
	}
	c, e := Restrict(api.Book{Marks: []api.Span{{From: 0, To: 100}, {From: 101, To: last}}, Like: []api.Chars{{From: 0, To: last, Is: []rune{5}}}}, x)
	if len(c.Marks) != 65536 || len(c.Like) != 65536 || e != api.OK {
		t.Errorf("to MaxSpans spans: %d, %d rows, %d", len(c.Marks), len(c.Like), e)
	}
	many := api.Book{}
	for i := range rune(65536) {
		many.Marks = append(many.Marks, api.Span{From: 16 * i, To: 16*i + 10})
		x[i] = api.Span{From: 16*i + 8, To: 16*i + 17}
	}
	if c, e = Restrict(many, x); len(c.Marks) != 131071 || e != api.OK {
		t.Errorf("more than MaxRows: %d rows, %d", len(c.Marks), e)
	}
}

// wantClosure goes over all code points until nothing is added any more.
func wantClosure(b api.Book, x []api.Span) []api.Span {
	in := make([]bool, points)
	for _, s := range x {
		for p := s.From; p <= s.To; p++ {
			in[p] = true
		}
	}
	w := worldOf(b)
	for changed := true; changed; {
		changed = false
		for p := rune(0); p < points; p++ {
			if !in[p] || w.maps[p] == 0 && w.decomp[p] == 0 {
				continue
			}
			said := w.point(p)
			for _, q := range slices.Concat(said.Map, said.Parts) {
				changed = changed || !in[q]
				in[q] = true
			}
		}
	}
	return setBy(func(p rune) bool { return in[p] })
}

// closes holds Closure against that, and Closure of Closure.
func closes(t *testing.T, what string, b api.Book, x []api.Span) {
	t.Helper()
	want := wantClosure(b, x)
	got, e := Closure(b, x)
	if !slices.Equal(got, want) || e != api.OK {
		t.Fatalf("%s: Closure(%.2000v, %.200v): %v, %d, not %v", what, b, x, got, e, want)
	}
	if again, e := Closure(b, got); !slices.Equal(again, got) || e != api.OK {
		t.Fatalf("%s: Closure of Closure: %v, %d, not %v", what, again, e, got)
	}
}

// Promises 10.7 and 10.9: Closure of many books and sets.
func TestClosureOfMany(t *testing.T) {
	r := rand.New(rand.NewSource(109))
	for i := range 24 {
		b, x := someBook(r), someSet(r)
		if i%6 == 5 {
			b, x = sample(), []api.Span{{From: 0xbd, To: 0xbe}, {From: 0x1e68, To: 0x1e68}, {From: 0x212b, To: 0x212b}}
		}
		t.Run(fmt.Sprint(i), func(t *testing.T) {
			t.Parallel()
			closes(t, "some", b, x)
		})
	}
}

// Promise 10.7: Closure over maps and parts, several steps deep.
func TestClosure(t *testing.T) {
	b := parts([]rune{100, 101, 900}, []rune{102, 200}, []rune{300, 5, 6}, []rune{400, 300})
	b.Maps = []api.Chars{{From: 101, To: 101, Is: []rune{102}}, {From: 150, To: 160, Is: []rune{400, 155}}, {From: 200, To: 200, Is: []rune{200, 250}}, {From: 201, To: 260, Is: []rune{7, 8}}, {From: 700, To: 700, Is: []rune{701}}, {From: 701, To: 701, Is: []rune{700}}}
	one := func(l ...rune) []api.Span {
		var x []api.Span
		for _, p := range l {
			x = append(x, api.Span{From: p, To: p})
		}
		x, _, _ = span.Make(x...)
		return x
	}
	for _, c := range []struct{ x, want []api.Span }{
		{nil, nil},
		{one(1), one(1)},
		{one(100), one(7, 8, 100, 101, 102, 200, 250, 900)},
		{one(101), one(7, 8, 101, 102, 200, 250)},
		{one(250), one(7, 8, 250)},
		{one(150), one(5, 6, 150, 155, 300, 400)},
		{[]api.Span{{From: 140, To: 150}}, append(one(5, 6), append([]api.Span{{From: 140, To: 150}}, one(155, 300, 400)...)...)},
		{[]api.Span{{From: 160, To: 199}}, append(one(5, 6, 155), append([]api.Span{{From: 160, To: 199}}, one(300, 400)...)...)},
		{one(700), one(700, 701)}, {one(701), one(700, 701)},
		{one(4, 9, 300), []api.Span{{From: 4, To: 6}, {From: 9, To: 9}, {From: 300, To: 300}}},
		{[]api.Span{{From: 0, To: last}}, []api.Span{{From: 0, To: last}}},
		{one(44032), one(44032)},
	} {
		if x, e := Closure(b, c.x); !slices.Equal(x, c.want) || e != api.OK {
			t.Errorf("Closure of %v: %v, %d, not %v", c.x, x, e, c.want)
		}
	}
	var deep api.Book
	for i := range rune(65536) {
		deep.Maps = append(deep.Maps, api.Chars{From: 0x20000 + i, To: 0x20000 + i, Is: []rune{0x20001 + i}})
	}
	if x, e := Closure(deep, one(0x20000)); !slices.Equal(x, []api.Span{{From: 0x20000, To: 0x30000}}) || e != api.OK {
		t.Errorf("MaxRows steps: %v, %d", x, e)
	}
}

// wantCounts is Counts, code point by code point.
func wantCounts(b api.Book) api.Counts {
	w := worldOf(b)
	var n api.Counts
	scripts := make(map[string]bool)
	for p := rune(0); p < points; p++ {
		x := w.point(p)
		switch x.Status {
		case 1:
			n.Valid++
		case 2:
			n.Ignored++
		case 3:
			n.Deviations++
		case 4:
			n.Mapped++
		}
		if x.Mark {
			n.Marks++
		}
		if len(x.Parts) == 2 && !x.Excluded && x.Class == 0 && w.class[x.Parts[0]] == 0 {
			n.Pairs++
		}
		if x.Script > 0 {
			scripts[w.name(p)] = true
		}
	}
	n.Scripts = len(scripts)
	return n
}

// wantTidy is Tidy, code point by code point.
func wantTidy(b api.Book) api.Book {
	w := worldOf(b)
	var out api.Book
	number := make(map[string]int)
	put := func(list int, l []row, p rune, n int, is []rune) []row {
		if n == 0 && is == nil {
			return l
		}
		if at := len(l) - 1; at >= 0 && list != api.ListDecomp && l[at].to == p-1 && l[at].n == n && slices.Equal(l[at].is, is) {
			l[at].to = p
			return l
		}
		return append(l, row{p, p, n, is})
	}
	flag := func(is bool) int {
		if is {
			return 1
		}
		return 0
	}
	var rows [12][]row
	for p := rune(0); p < points; p++ {
		x := w.point(p)
		name := w.name(p)
		if name != "" && number[name] == 0 {
			out.Names = append(out.Names, name)
			number[name] = len(out.Names)
		}
		for i, said := range [...]row{{n: x.Status % 4}, {is: x.Map}, {n: x.Class}, {is: x.Parts}, {n: flag(x.Excluded)}, {n: x.Bidi}, {n: x.Join}, {n: flag(x.Mark)}, {n: number[name]}, {is: x.Like}} {
			rows[i+2] = put(i+2, rows[i+2], p, said.n, said.is)
		}
	}
	for list := 2; list <= 11; list++ {
		out = setRows(out, list, rows[list])
	}
	return out
}

// tidies holds Tidy and Counts against these, and what follows.
func tidies(t *testing.T, what string, b api.Book) {
	t.Helper()
	c, e := Tidy(b)
	if want := wantTidy(b); !sameBook(c, want) || e != api.OK {
		t.Fatalf("%s: Tidy(%.3000v): %.3000v, %d, not %.3000v", what, b, c, e, want)
	}
	if d, e := Tidy(c); !sameBook(d, c) || e != api.OK {
		t.Fatalf("%s: Tidy of Tidy: %v, %d, not %v", what, d, e, c)
	}
	if x, e := Differ(b, c); len(x) != 0 || e != api.OK {
		t.Fatalf("%s: Tidy differs at %v, %d", what, x, e)
	}
	if w, e := Check(c); w != (api.Where{}) || e != api.OK {
		t.Fatalf("%s: Tidy may not be: %v, %d", what, w, e)
	}
	n, e := Counts(b)
	if want := wantCounts(b); n != want || e != api.OK {
		t.Fatalf("%s: Counts(%.3000v): %v, %d, not %v", what, b, n, e, want)
	}
	if m, e := Counts(c); m != n || e != api.OK {
		t.Fatalf("%s: Counts of Tidy: %v, %d, not %v", what, m, e, n)
	}
}

// Promises 10.8 and 10.9: Counts and Tidy of many books.
func TestTidyOfMany(t *testing.T) {
	books := append(someBooks(110, 14), wideBook(), richSound(), fullBook())
	for i, b := range books {
		t.Run(fmt.Sprint(i), func(t *testing.T) {
			t.Parallel()
			tidies(t, "some", b)
		})
	}
}

// Promise 10.8: rows that touch, rows of 0, names that nothing has.
func TestTidy(t *testing.T) {
	b := api.Book{
		Names:    []string{"Unused", "Han", "Latin", "Greek", "Other"},
		Status:   []api.Value{{From: 97, To: 98, N: 1}, {From: 99, To: 99, N: 1}, {From: 100, To: 100, N: 2}, {From: 101, To: 101, N: 1}, {From: 103, To: 103, N: 1}},
		Maps:     []api.Chars{{From: 0, To: 0, Is: []rune{1, 2}}, {From: 1, To: 5, Is: []rune{1, 2}}, {From: 6, To: 6, Is: []rune{1}}, {From: 7, To: 7, Is: []rune{2, 1}}, {From: 9, To: 9, Is: []rune{2, 1}}},
		Class:    []api.Value{{From: 1, To: 1, N: 5}, {From: 2, To: 2, N: 5}, {From: 3, To: 3, N: 6}},
		Decomp:   []api.Chars{{From: 200, To: 200, Is: []rune{5}}, {From: 201, To: 201, Is: []rune{5}}},
		Excluded: []api.Span{{From: 1, To: 1}, {From: 2, To: 2}, {From: 4, To: 4}},
		Bidi:     []api.Value{{From: 1, To: 1, N: 1}, {From: 2, To: 2, N: 0}, {From: 3, To: 3, N: 1}, {From: 4, To: 9, N: 1}, {From: 10, To: 10, N: 0}},
		Join:     []api.Value{{From: 0, To: last, N: 0}},
		Marks:    []api.Span{{From: 0, To: 1}, {From: 2, To: last}},
		Script:   []api.Value{{From: 1, To: 1, N: 4}, {From: 2, To: 2, N: 4}, {From: 3, To: 3, N: 2}, {From: 4, To: 4, N: 4}, {From: 6, To: 9, N: 3}, {From: 10, To: 10, N: 2}},
		Like:     []api.Chars{{From: 1, To: 1, Is: []rune{5}}, {From: 2, To: 2, Is: []rune{5}}, {From: 3, To: 3, Is: []rune{5, 5}}},
	}
	want := api.Book{
		Names:    []string{"Greek", "Han", "Latin"},
		Status:   []api.Value{{From: 97, To: 99, N: 1}, {From: 100, To: 100, N: 2}, {From: 101, To: 101, N: 1}, {From: 103, To: 103, N: 1}},
		Maps:     []api.Chars{{From: 0, To: 5, Is: []rune{1, 2}}, {From: 6, To: 6, Is: []rune{1}}, {From: 7, To: 7, Is: []rune{2, 1}}, {From: 9, To: 9, Is: []rune{2, 1}}},
		Class:    []api.Value{{From: 1, To: 2, N: 5}, {From: 3, To: 3, N: 6}},
		Decomp:   []api.Chars{{From: 200, To: 200, Is: []rune{5}}, {From: 201, To: 201, Is: []rune{5}}},
		Excluded: []api.Span{{From: 1, To: 2}, {From: 4, To: 4}},
		Bidi:     []api.Value{{From: 1, To: 1, N: 1}, {From: 3, To: 9, N: 1}},
		Marks:    []api.Span{{From: 0, To: last}},
		Script:   []api.Value{{From: 1, To: 2, N: 1}, {From: 3, To: 3, N: 2}, {From: 4, To: 4, N: 1}, {From: 6, To: 9, N: 3}, {From: 10, To: 10, N: 2}},
		Like:     []api.Chars{{From: 1, To: 2, Is: []rune{5}}, {From: 3, To: 3, Is: []rune{5, 5}}},
	}
	if c, e := Tidy(b); !sameBook(c, want) || e != api.OK {
		t.Errorf("Tidy: %v, %d, not %v", c, e, want)
	}
	tidies(t, "by hand", b)
}

// Promise 10.8: Counts by hand.
func TestCounts(t *testing.T) {
	b := parts([]rune{192, 65, 768}, []rune{193, 65, 769}, []rune{194, 66, 768}, []rune{195, 67, 768}, []rune{196, 65})
	b.Status = []api.Value{{From: 0, To: 9, N: 1}, {From: 10, To: 12, N: 2}, {From: 13, To: 13, N: 3}, {From: 20, To: 24, N: 1}}
	b.Maps = []api.Chars{{From: 30, To: 99, Is: []rune{1}}, {From: last, To: last, Is: []rune{1}}}
	b.Marks = []api.Span{{From: 0, To: 999}, {From: 1000, To: 1000}}
	b.Excluded = []api.Span{{From: 193, To: 193}}
	b.Class = []api.Value{{From: 66, To: 66, N: 1}, {From: 195, To: 195, N: 1}, {From: 768, To: 769, N: 230}}
	b.Names, b.Script = []string{"a", "b", "c"}, []api.Value{{From: 1, To: 1, N: 3}, {From: 2, To: 2, N: 1}, {From: 3, To: 3, N: 3}}
	if n, e := Counts(b); n != (api.Counts{Valid: 15, Ignored: 3, Deviations: 1, Mapped: 71, Marks: 1001, Pairs: 1, Scripts: 2}) || e != api.OK {
		t.Errorf("Counts: %v, %d", n, e)
	}
	if n, e := Counts(api.Book{Names: []string{"a"}}); n != (api.Counts{}) || e != api.OK {
		t.Errorf("Counts of no rows: %v, %d", n, e)
	}
	if n, e := Counts(api.Book{Status: []api.Value{{From: 0, To: last, N: 3}}, Marks: []api.Span{{From: 0, To: last}}}); n != (api.Counts{Deviations: points, Marks: points}) || e != api.OK {
		t.Errorf("Counts of all: %v, %d", n, e)
	}
}

// The chapter's example 5.
func TestMoreExample(t *testing.T) {
	b, _, _ := Read(example)
	if n, e := Counts(b); n != (api.Counts{Valid: 26, Mapped: 1, Scripts: 1}) || e != api.OK {
		t.Errorf("Counts: %v, %d", n, e)
	}
	x := []api.Span{{From: 65, To: 65}}
	if l, e := Closure(b, x); !slices.Equal(l, []api.Span{{From: 65, To: 65}, {From: 97, To: 97}}) || e != api.OK {
		t.Errorf("Closure: %v, %d", l, e)
	}
	if c, e := Restrict(b, x); !sameBook(c, api.Book{Names: []string{"Latin"}, Maps: []api.Chars{{From: 65, To: 65, Is: []rune{97}}}}) || e != api.OK {
		t.Errorf("Restrict: %v, %d", c, e)
	}
}
