package book

import (
	"slices"
	"testing"

	"postern/api"
)

// wideBook is a book with something of each kind in every area: rows of one code point and of many, at both ends, over surrogates, Hangul and the borders of blocks, with every number.
func wideBook() api.Book {
	b := api.Book{Names: letters(64)}
	b.Status = []api.Value{{From: 0, To: 0, N: 1}, {From: 97, To: 127, N: 1}, {From: 128, To: 130, N: 2}, {From: 0x1100, To: 0xd7a3, N: 3}, {From: 0xd800, To: 0xdfff, N: 2}, {From: last, To: last, N: 3}}
	b.Maps = []api.Chars{{From: 1, To: 96, Is: []rune{97}}, {From: 131, To: 131, Is: []rune{97, 98}}, {From: 132, To: 255, Is: slices.Repeat([]rune{last}, 18)}, {From: 0xe000, To: last - 1, Is: []rune{0}}}
	b.Class = []api.Value{{From: 0, To: 0, N: 254}, {From: 768, To: 900, N: 1}, {From: 0xd7ff, To: 0x10000, N: 7}, {From: last, To: last, N: 230}}
	for i := range rune(600) {
		p := 1000 + 3*i
		b.Decomp = append(b.Decomp, api.Chars{From: p, To: p, Is: []rune{40 + i, 768 - i}})
	}
	b.Decomp = append(b.Decomp, api.Chars{From: 3001, To: 3001, Is: []rune{0xac00}}, api.Chars{From: last, To: last, Is: []rune{1, 2}})
	b.Excluded = []api.Span{{From: 0, To: 5}, {From: 1003, To: 1003}, {From: 1004, To: 1010}, {From: last, To: last}}
	for i := range rune(200) {
		b.Bidi = append(b.Bidi, api.Value{From: 130 * i, To: 130*i + i%130, N: int(i % 23)})
		b.Join = append(b.Join, api.Value{From: 129 * i, To: 129*i + i/2, N: int(i % 6)})
		b.Script = append(b.Script, api.Value{From: 5000 * i, To: 5000*i + 17*i, N: 1 + int(i*7%64)})
		b.Like = append(b.Like, api.Chars{From: 127 * i, To: 127*i + i/3, Is: slices.Repeat([]rune{i}, int(1+i%18))})
	}
	b.Marks = []api.Span{{From: 0, To: 0}, {From: 127, To: 128}, {From: 129, To: 255}, {From: 0x10000, To: last}}
	return b
}

// fullBook is a book with MaxRows rows in each list.
func fullBook() api.Book {
	b := api.Book{Names: letters(64)}
	for i := range rune(65536) {
		p := 0x20000 + 2*i
		b.Status = append(b.Status, api.Value{From: p, To: p, N: int(1 + i%3)})
		b.Maps = append(b.Maps, api.Chars{From: p + 1, To: p + 1, Is: []rune{i % 0xd800, p}})
		b.Class = append(b.Class, api.Value{From: p, To: p + i%2, N: int(1 + i%254)})
		b.Decomp = append(b.Decomp, api.Chars{From: p, To: p, Is: []rune{0x60000 + i, 97}})
		b.Excluded = append(b.Excluded, api.Span{From: p, To: p + (i+1)%2})
		b.Bidi = append(b.Bidi, api.Value{From: p, To: p + i%2, N: int(i % 23)})
		b.Join = append(b.Join, api.Value{From: p, To: p + i%2, N: int(i % 6)})
		b.Marks = append(b.Marks, api.Span{From: p + 1, To: p + 1})
		b.Script = append(b.Script, api.Value{From: p, To: p + 1, N: int(1 + i%64)})
		b.Like = append(b.Like, api.Chars{From: p, To: p + i%2, Is: []rune{p + 1}})
	}
	return b
}

// sayTheSame holds all calls on tables against the world, of each code point.
func sayTheSame(t *testing.T, what string, x *Tables, b api.Book) {
	t.Helper()
	w := worldOf(b)
	for p := rune(0); p < points; p++ {
		want := w.point(p)
		if got := x.Point(p); !samePoint(got, want) {
			t.Fatalf("%s: Point(%d): %v, not %v", what, p, got, want)
		}
		single(t, what, x, p, want)
	}
	for _, p := range []rune{-1, -128, -1 << 31, points, points + 127, 1<<31 - 1} {
		if got := x.Point(p); !samePoint(got, api.Point{}) {
			t.Fatalf("%s: Point(%d): %v", what, p, got)
		}
		single(t, what, x, p, api.Point{})
	}
	for n := -1; n <= 66; n++ {
		want := ""
		if n >= 1 && n <= len(b.Names) {
			want = b.Names[n-1]
		}
		if got := x.Name(n); got != want {
			t.Errorf("%s: Name(%d): %q, not %q", what, n, got, want)
		}
	}
	for _, n := range []int{-1 << 63, 1<<63 - 1, 1<<32 + 1} {
		if got := x.Name(n); got != "" {
			t.Errorf("%s: Name(%d): %q", what, n, got)
		}
	}
	if got := x.Book(); !sameBook(got, b) {
		t.Errorf("%s: Book: %v", what, got)
	}
	pairs(t, what, x, w)
}

// single holds the calls for one thing each against a point.
func single(t *testing.T, what string, x *Tables, p rune, want api.Point) {
	if x.Status(p) != want.Status || x.Kept(p) != (want.Status == 1 || want.Status == 3) || !slices.Equal(x.Map(p), want.Map) {
		t.Fatalf("%s: status of %d: %d, %v, %v, not %v", what, p, x.Status(p), x.Kept(p), x.Map(p), want)
	}
	if x.Class(p) != want.Class || !slices.Equal(x.Parts(p), want.Parts) || x.Bidi(p) != want.Bidi || x.Join(p) != want.Join || x.Mark(p) != want.Mark || x.Script(p) != want.Script || !slices.Equal(x.Like(p), want.Like) {
		t.Fatalf("%s: of %d: %d, %v, %d, %d, %v, %d, %v, not %v", what, p, x.Class(p), x.Parts(p), x.Bidi(p), x.Join(p), x.Mark(p), x.Script(p), x.Like(p), want)
	}
}

// pairs holds Pair against the world: of all parts, turned about too, and of what stands near.
func pairs(t *testing.T, what string, x *Tables, w *world) {
	t.Helper()
	want := make(map[[2]rune]rune)
	for _, r := range w.book.Decomp {
		if len(r.Is) == 2 && w.excl[r.From] == 0 && w.class[r.From] == 0 && w.class[r.Is[0]] == 0 {
			want[[2]rune{r.Is[0], r.Is[1]}] = r.From
		}
	}
	ask := func(a, b rune) {
		c, is := want[[2]rune{a, b}]
		if got, ok := x.Pair(a, b); got != c || ok != is {
			t.Fatalf("%s: Pair(%d, %d): %d, %v, not %d, %v", what, a, b, got, ok, c, is)
		}
	}
	for _, r := range w.book.Decomp {
		a, b := r.Is[0], r.Is[len(r.Is)-1]
		for _, c := range [][2]rune{{a, b}, {b, a}, {a, a}, {b, b}, {a, b + 1}, {a - 1, b}, {a, -1}, {-1, b}, {r.From, b}, {a, 0}} {
			ask(c[0], c[1])
		}
	}
	for _, c := range [][2]rune{{0, 0}, {-1, -1}, {points, points}, {-1 << 31, 1<<31 - 1}, {4352, 4449}, {44032, 4520}} {
		ask(c[0], c[1])
	}
}

// Promises 10.4 and 10.6 (T1): tables say of each of the 1114112 code points what the rows do.
func TestTables(t *testing.T) {
	books := map[string]api.Book{"nothing": {}, "names alone": {Names: letters(64)}, "the sample": sample(), "wide": wideBook(), "full": fullBook(), "rich": richSound()}
	for what, b := range books {
		t.Run(what, func(t *testing.T) {
			t.Parallel()
			sayTheSame(t, what, compiled(t, b), b)
		})
	}
	for _, b := range someBooks(104, 6)[2:] {
		t.Run("some", func(t *testing.T) {
			t.Parallel()
			sayTheSame(t, "some", compiled(t, b), b)
		})
	}
}

// Promise 10.4: Flat and Point about the ends of all rows, and of what is no code point.
func TestFlat(t *testing.T) {
	books := append(someBooks(105, 150), richSound())
	for _, b := range books {
		x := compiled(t, b)
		for _, p := range edges(b) {
			got, e := Flat(b, p)
			if p < 0 || p > last {
				if !samePoint(got, api.Point{}) || e != api.ErrPoint || !samePoint(x.Point(p), api.Point{}) {
					t.Fatalf("Flat(%v, %d): %v, %d; Point: %v", b, p, got, e, x.Point(p))
				}
				continue
			}
			if want := says(b, p); !samePoint(got, want) || e != api.OK || !samePoint(x.Point(p), want) {
				t.Fatalf("Flat(%v, %d): %v, %d; Point: %v; not %v", b, p, got, e, x.Point(p), want)
			}
		}
	}
	b := wideBook()
	for p := rune(0); p < 2000; p += 3 {
		if got, e := Flat(b, p); !samePoint(got, says(b, p)) || e != api.OK {
			t.Fatalf("Flat(%d): %v, %d", p, got, e)
		}
	}
}

// Promise 10.4: with MaxRows rows in a list the first, the last and none are told apart.
func TestFirstAndLastRow(t *testing.T) {
	for _, list := range []int{api.ListMaps, api.ListDecomp, api.ListLike} {
		l := make([]row, 65536)
		for i := range l {
			p := 0x20000 + 2*rune(i)
			l[i] = row{p, p, 0, []rune{rune(i) % 0xd800, p + 1}}
		}
		for _, b := range []api.Book{setRows(api.Book{}, list, l), setRows(api.Book{}, list, l[:1]), setRows(api.Book{}, list, l[65535:])} {
			x := compiled(t, b)
			for _, p := range []rune{0, 0x1ffff, 0x20000, 0x20001, 0x20002, 0x3fffd, 0x3fffe, 0x3ffff, 0x40000, last} {
				if got, want := x.Point(p), says(b, p); !samePoint(got, want) {
					t.Errorf("list %d, %d rows: Point(%x): %v, not %v", list, len(rowsOf(b, list)), p, got, want)
				}
			}
		}
	}
}

// Promise 10.4: what a pair composes to, and what keeps it from that.
func TestPair(t *testing.T) {
	b := parts([]rune{192, 65, 768}, []rune{193, 192, 769}, []rune{194, 65}, []rune{195, 65, 65}, []rune{196, 768, 65})
	for _, c := range []struct {
		what    string
		b       api.Book
		a, c    rune
		want    rune
		compose bool
	}{
		{"a pair", b, 65, 768, 192, true}, {"a pair of what has parts", b, 192, 769, 193, true}, {"one part", b, 65, 0, 0, false}, {"twice the same", b, 65, 65, 195, true}, {"turned about", b, 768, 65, 196, true}, {"no pair", b, 65, 769, 0, false},
		{"excluded", with(b, api.ListExcluded, 192, 0), 65, 768, 0, false}, {"another excluded", with(b, api.ListExcluded, 193, 0), 65, 768, 192, true}, {"its parts excluded", with(with(b, api.ListExcluded, 65, 0), api.ListExcluded, 768, 0), 65, 768, 192, true},
		{"the first has a class", with(b, api.ListClass, 65, 1), 65, 768, 0, false}, {"the second has a class", with(b, api.ListClass, 768, 230), 65, 768, 192, true}, {"it has a class", with(b, api.ListClass, 192, 1), 65, 768, 0, false},
		{"not kept", as(b, 192, 192, 2), 65, 768, 192, true},
		{"Hangul", b, 4352, 4449, 0, false},
	} {
		if p, ok := compiled(t, c.b).Pair(c.a, c.c); p != c.want || ok != c.compose {
			t.Errorf("%s: Pair(%d, %d): %d, %v", c.what, c.a, c.c, p, ok)
		}
	}
}

// Promise 10.5: nil tables, and zero ones, are those of a book without rows.
func TestNilTables(t *testing.T) {
	for what, x := range map[string]*Tables{"nil": nil, "zero": new(Tables), "of no rows": compiled(t, api.Book{})} {
		t.Run(what, func(t *testing.T) {
			t.Parallel()
			sayTheSame(t, what, x, api.Book{})
			if p, ok := x.Pair(65, 768); p != 0 || ok {
				t.Errorf("%s: Pair: %d, %v", what, p, ok)
			}
		})
	}
}

// The chapter's examples 3 and 4.
func TestFlatExample(t *testing.T) {
	b, _, _ := Read(example)
	if x, e := Flat(b, 65); !samePoint(x, api.Point{Status: api.StatusMapped, Map: []rune{97}}) || e != api.OK {
		t.Errorf("Flat of A: %v, %d", x, e)
	}
	if x, e := Flat(b, 97); !samePoint(x, api.Point{Status: api.StatusValid, Script: 1}) || e != api.OK {
		t.Errorf("Flat of a: %v, %d", x, e)
	}
	isSound(t, "no rows", api.Book{}, 1, 45)
	d := parts([]rune{192, 65, 768})
	if p, ok := compiled(t, d).Pair(65, 768); p != 192 || !ok {
		t.Errorf("Pair: %d, %v", p, ok)
	}
}
