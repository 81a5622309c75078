package sample

import (
	"hash/fnv"
	"math/big"
	"slices"
	"strings"
	"testing"

	"postern/api"
	"postern/book"
)

// Promises 11.1 and 11.4: Text is the lines that are given, and Book is book.Read of it, as often as it is asked.
func TestTextAndBook(t *testing.T) {
	want := wantBook(t)
	for range 3 {
		if Text() != api.Sample {
			t.Fatal("Text is not api.Sample")
		}
		read, at, e := book.Read(Text())
		if at != 0 || e != api.OK {
			t.Fatalf("Read: %d, %d", at, e)
		}
		if b := Book(); !sameBook(b, read) || !sameBook(b, want) {
			t.Errorf("Book: %v", b)
		}
	}
	if n := strings.Count(Text(), "\n"); n != 278 {
		t.Errorf("%d lines", n)
	}
}

// Of the chapter's words: the sample book may be, and is sound.
func TestSound(t *testing.T) {
	if where, e := book.Check(Book()); where != (api.Where{}) || e != api.OK {
		t.Errorf("Check: %v, %d", where, e)
	}
	if rule, p, e := book.Sound(Book()); rule != 0 || p != 0 || e != api.OK {
		t.Errorf("Sound: %d, %d, %d", rule, p, e)
	}
}

// Of the chapter's words: what the sample book has, by Book and by Tables.
func TestWhatItHas(t *testing.T) {
	x := Tables()
	status := func(want int, l ...rune) {
		t.Helper()
		for _, p := range l {
			if x.Status(p) != want {
				t.Errorf("status of %x: %d, not %d", p, x.Status(p), want)
			}
		}
	}
	status(api.StatusDeviation, 0xdf, 0x3c2, 0x200c, 0x200d)
	status(api.StatusMapped, 0x3002, 0xff0e, 0xff61, 0xff21, 0xff10, 0x958, 'A')
	status(api.StatusValid, 'a', '.', '-', 0xac00, 0x1100, 0x5d0)
	status(api.StatusIgnored, 0xad, 0xe0100)
	for _, p := range []rune{0x3002, 0xff0e, 0xff61} {
		if l := x.Map(p); !slices.Equal(l, []rune{'.'}) {
			t.Errorf("Map of %x: %v", p, l)
		}
	}
	if !x.Point(0x958).Excluded || x.Bidi(0x5d0) != api.BidiR || x.Bidi(0x660) != api.BidiAN || x.Bidi(0x6f0) != api.BidiEN || x.Join(0x628) != api.JoinD {
		t.Error("excluded, from right to left, digits, joining")
	}
	if !slices.Equal(Book().Names, strings.Fields(scripts)) {
		t.Errorf("Names: %v", Book().Names)
	}
}

// Promises 11.1 and T1: the tables say of each code point what the book's lines say.
func TestTables(t *testing.T) {
	w, x := worldOf(t), Tables()
	if x == nil {
		t.Fatal("no tables")
	}
	for p := rune(0); p < points; p++ {
		if got, want := x.Point(p), w[p]; !samePoint(got, want) {
			t.Fatalf("Point(%x): %v, not %v", p, got, want)
		}
	}
	for _, p := range []rune{-1, points, -1 << 31, 1<<31 - 1} {
		if got := x.Point(p); !samePoint(got, api.Point{}) {
			t.Errorf("Point(%d): %v", p, got)
		}
	}
	for i, name := range append([]string{""}, append(strings.Fields(scripts), "")...) {
		if x.Name(i) != name {
			t.Errorf("Name(%d): %q, not %q", i, x.Name(i), name)
		}
	}
	if !sameBook(x.Book(), wantBook(t)) {
		t.Errorf("Book of the tables: %v", x.Book())
	}
}

// Promise 11.1: what flat rows say of the code points about their ends, the tables do; and pairs compose, but the one that is excluded and the single ones.
func TestTablesByRows(t *testing.T) {
	b, x := Book(), Tables()
	for _, r := range entries(t) {
		for _, p := range []rune{r.from - 1, r.from, r.to, r.to + 1} {
			said, _ := book.Flat(b, p)
			if !samePoint(x.Point(p), said) {
				t.Errorf("Point(%x): %v, not %v", p, x.Point(p), said)
			}
		}
	}
	pairs := 0
	for _, r := range b.Decomp {
		want := r.From
		if len(r.Is) != 2 || r.From == 0x958 {
			want = 0
		} else {
			pairs++
		}
		if c, ok := x.Pair(r.Is[0], r.Is[len(r.Is)-1]); c != want || ok != (want != 0) {
			t.Errorf("Pair(%x, %x): %x, %v", r.Is[0], r.Is[len(r.Is)-1], c, ok)
		}
	}
	if pairs != 19 {
		t.Errorf("%d pairs", pairs)
	}
}

// Promise 11.1: Sum, by the library, by whole numbers of any size, and as it is.
func TestSum(t *testing.T) {
	h := fnv.New64a()
	h.Write([]byte(api.Sample))
	if Sum() != h.Sum64() {
		t.Errorf("Sum: %d, not %d", Sum(), h.Sum64())
	}
	sum, factor, modulus := new(big.Int).SetUint64(14695981039346656037), big.NewInt(1099511628211), new(big.Int).Lsh(big.NewInt(1), 64)
	for _, c := range []byte(api.Sample) {
		sum.Xor(sum, big.NewInt(int64(c)))
		sum.Mod(sum.Mul(sum, factor), modulus)
	}
	if Sum() != sum.Uint64() || Sum() != 13958289714714406047 {
		t.Errorf("Sum: %d, not %d", Sum(), sum.Uint64())
	}
}

// Promise 11.1: Rows, by the lists one by one; Names are left out.
func TestRows(t *testing.T) {
	b := Book()
	sum := 0
	for _, c := range []struct {
		what      string
		got, want int
	}{
		{"Status", len(b.Status), 33 + 4 + 3}, {"Maps", len(b.Maps), 73}, {"Class", len(b.Class), 26}, {"Decomp", len(b.Decomp), 22}, {"Excluded", len(b.Excluded), 1},
		{"Bidi", len(b.Bidi), 46}, {"Join", len(b.Join), 18}, {"Marks", len(b.Marks), 7}, {"Script", len(b.Script), 23}, {"Like", len(b.Like), 22},
	} {
		sum += c.want
		if c.got != c.want {
			t.Errorf("%s: %d rows, not %d", c.what, c.got, c.want)
		}
	}
	if Rows() != sum || Rows() != len(entries(t)) || Rows() != 278 {
		t.Errorf("Rows: %d, not %d", Rows(), sum)
	}
}

// Promise 11.3: the witnesses one by one, in their order, each time.
func TestWitnesses(t *testing.T) {
	want := []struct {
		input  string
		opaque bool
		text   string
	}{
		{"EXAMPLE.com", false, "example.com"},
		{string([]byte{'f', 'a', 0xc3, 0x9f, '.', 'd', 'e'}), false, "xn--fa-hia.de"},
		{"b%C3%BCcher.de", false, "xn--bcher-kva.de"},
		{string([]rune{0xff21, 'b', 0x3002, 'c'}), false, "ab.c"},
		{"0x7F.1", false, "127.0.0.1"},
		{"4294967295.", false, "255.255.255.255"},
		{"[1:2::8]", false, "[1:2::8]"},
		{"[::FFFF:1.2.3.4]", false, "[::ffff:102:304]"},
		{"Q%41", true, "Q%41"},
		{"", true, ""},
		{"[::]", true, "[::]"},
		{string([]rune{0x5d0, 0x5d1}), false, "xn--4dbc"},
	}
	for range 2 {
		got := Witnesses()
		if len(got) != len(want) {
			t.Fatalf("%d witnesses", len(got))
		}
		for i, w := range want {
			if got[i].Input != w.input || got[i].Opaque != w.opaque || got[i].Text != w.text {
				t.Errorf("the witness at %d: %+v, not %+v", i, got[i], w)
			}
		}
	}
}

// The chapter's examples.
func TestExamples(t *testing.T) {
	if Rows() != 278 {
		t.Errorf("Rows: %d", Rows())
	}
	if x := Points(2); len(x) < 2 || x[0] != (api.Span{From: 0xad, To: 0xad}) || x[1] != (api.Span{From: 0x2064, To: 0x2064}) {
		t.Errorf("Points(2): %v", x)
	}
	if x := Letters("Hebrew"); !slices.Equal(x, []api.Span{{From: 0x5b0, To: 0x5ea}}) {
		t.Errorf("Letters of Hebrew: %v", x)
	}
	if x := Letters("Klingon"); len(x) != 0 {
		t.Errorf("Letters of Klingon: %v", x)
	}
}
