package sample

import (
	"slices"
	"strings"
	"sync"
	"testing"

	"postern/api"
	"postern/book"
)

// fill writes over a list, its spare room too.
func fill[E any](l []E, wrong E) {
	l = l[:cap(l)]
	for i := range l {
		l[i] = wrong
	}
}

// spoil writes over all of a book.
func spoil(b api.Book) {
	for _, rows := range [][]api.Chars{b.Maps, b.Decomp, b.Like} {
		for _, r := range rows {
			fill(r.Is, -7)
		}
		fill(rows, api.Chars{From: -7, To: -7, Is: []rune{-7}})
	}
	for _, rows := range [][]api.Value{b.Status, b.Class, b.Bidi, b.Join, b.Script} {
		fill(rows, api.Value{From: -7, To: -7, N: -7})
	}
	fill(b.Excluded, api.Span{From: -7, To: -7})
	fill(b.Marks, api.Span{From: -7, To: -7})
	fill(b.Names, "spoiled")
}

// Rules R4 and R5: a book that came out is the caller's own; written over, all calls answer as before, and other answers stay.
func TestBookIsOwn(t *testing.T) {
	want, other, tables := wantBook(t), Book(), Tables()
	for range 2 {
		spoil(Book())
		spoil(tables.Book())
		spoil(Tables().Book())
		for what, b := range map[string]api.Book{"Book": Book(), "another Book": other, "Tables": tables.Book(), "other Tables": Tables().Book()} {
			if !sameBook(b, want) {
				t.Errorf("%s is written over: %v", what, b)
			}
		}
		if Rows() != 278 || Sum() != 13958289714714406047 || Text() != api.Sample {
			t.Errorf("Rows: %d, Sum: %d", Rows(), Sum())
		}
		for status, text := range statusSets {
			isSet(t, "Points", Points(status), text)
		}
		for i, name := range strings.Fields(scripts) {
			isSet(t, name, Letters(name), scriptSets[i])
		}
	}
}

// Rule R4: no two lists of one answer share memory: each list in turn is written over and taken away, and the others stay.
func TestListsAreApart(t *testing.T) {
	b, want := Book(), wantBook(t)
	stays := func(what string) {
		t.Helper()
		if !sameBook(b, want) {
			t.Fatalf("%s shares memory with another list", what)
		}
	}
	for i := range b.Maps {
		takeAway(&b.Maps[i].Is, &want.Maps[i].Is, -7)
		stays("a row of Maps")
	}
	for i := range b.Decomp {
		takeAway(&b.Decomp[i].Is, &want.Decomp[i].Is, -7)
		stays("a row of Decomp")
	}
	for i := range b.Like {
		takeAway(&b.Like[i].Is, &want.Like[i].Is, -7)
		stays("a row of Like")
	}
	for _, l := range [][2]*[]api.Chars{{&b.Maps, &want.Maps}, {&b.Decomp, &want.Decomp}, {&b.Like, &want.Like}} {
		takeAway(l[0], l[1], api.Chars{From: -7, To: -7})
		stays("a list of rows with code points")
	}
	for _, l := range [][2]*[]api.Value{{&b.Status, &want.Status}, {&b.Class, &want.Class}, {&b.Bidi, &want.Bidi}, {&b.Join, &want.Join}} {
		takeAway(l[0], l[1], api.Value{From: -7, To: -7, N: -7})
		stays("a list of rows with numbers")
	}
	takeAway(&b.Excluded, &want.Excluded, api.Span{From: -7, To: -7})
	stays("Excluded")
}

// takeAway writes over a list, and takes it away on both sides.
func takeAway[E any](l, want *[]E, wrong E) {
	fill(*l, wrong)
	*l, *want = nil, nil
}

// Rules R4 and R5: what tables hand out is the caller's own.
func TestTablesAreOwn(t *testing.T) {
	w := worldOf(t)
	x := Tables()
	for range 2 {
		for _, p := range []rune{'A', 0xbd, 0xc0, 0x958, 'm', 0x430, 0xe0} {
			for _, y := range []*book.Tables{x, Tables()} {
				said := y.Point(p)
				if !samePoint(said, w[p]) {
					t.Errorf("Point(%x): %v, not %v", p, said, w[p])
				}
				for _, l := range [][]rune{said.Map, said.Parts, said.Like, y.Map(p), y.Parts(p), y.Like(p)} {
					fill(l, -7)
				}
			}
		}
	}
}

// Rules R4 and R5: sets and witnesses that came out are the caller's own.
func TestSetsAreOwn(t *testing.T) {
	for status, want := range statusSets {
		kept := Points(status)
		fill(Points(status), api.Span{From: -7, To: -7})
		isSet(t, "Points", Points(status), want)
		isSet(t, "Points that are kept", kept, want)
	}
	for i, name := range strings.Fields(scripts) {
		kept := Letters(name)
		fill(Letters(name), api.Span{From: -7, To: -7})
		isSet(t, name, Letters(name), scriptSets[i])
		isSet(t, name+" that is kept", kept, scriptSets[i])
	}
	kept, want := Witnesses(), slices.Clone(Witnesses())
	fill(Witnesses(), api.Witness{Input: "spoiled", Opaque: true, Text: "spoiled"})
	if !slices.Equal(Witnesses(), want) || !slices.Equal(kept, want) {
		t.Errorf("Witnesses: %v", Witnesses())
	}
}

// Rule R5: calls at one time hang on nothing that they share.
func TestAtOneTime(t *testing.T) {
	want := wantBook(t)
	var all sync.WaitGroup
	for range 8 {
		all.Go(func() {
			for range 5 {
				b := Book()
				if !sameBook(b, want) || !sameBook(Tables().Book(), want) {
					t.Error("Book")
				}
				spoil(b)
				isSet(t, "Points", Points(4), statusSets[4])
				isSet(t, "Letters", Letters("Latin"), scriptSets[0])
			}
		})
	}
	all.Wait()
}
