package book

import (
	"fmt"
	"runtime"
	"slices"
	"testing"
	"unsafe"

	"postern/api"
)

// room is where a list lies, its spare room with it.
type room struct {
	what     string
	from, to uintptr
}

func roomOf[E any](what string, l []E) room {
	from := uintptr(unsafe.Pointer(unsafe.SliceData(l)))
	return room{what, from, from + uintptr(cap(l))*unsafe.Sizeof(*new(E))}
}

// roomsOf is where all lists of a book lie, and its names.
func roomsOf(what string, b api.Book) []room {
	l := []room{
		roomOf(what+".Names", b.Names), roomOf(what+".Status", b.Status), roomOf(what+".Maps", b.Maps), roomOf(what+".Class", b.Class), roomOf(what+".Decomp", b.Decomp), roomOf(what+".Excluded", b.Excluded),
		roomOf(what+".Bidi", b.Bidi), roomOf(what+".Join", b.Join), roomOf(what+".Marks", b.Marks), roomOf(what+".Script", b.Script), roomOf(what+".Like", b.Like),
	}
	for _, rows := range [][]api.Chars{b.Maps, b.Decomp, b.Like} {
		for i, r := range rows {
			l = append(l, roomOf(fmt.Sprint(what, ", a row's list at ", i), r.Is))
		}
	}
	for _, name := range b.Names {
		l = append(l, roomOf(what+", a name", unsafe.Slice(unsafe.StringData(name), len(name))))
	}
	return l
}

func roomsOfPoint(what string, x api.Point) []room {
	return []room{roomOf(what+".Map", x.Map), roomOf(what+".Parts", x.Parts), roomOf(what+".Like", x.Like)}
}

// apart tells of each two that overlap.
func apart(t *testing.T, l []room) {
	t.Helper()
	l = slices.DeleteFunc(l, func(r room) bool { return r.from == r.to })
	slices.SortFunc(l, func(a, b room) int {
		if a.from < b.from {
			return -1
		}
		return 1
	})
	for i := 1; i < len(l); i++ {
		if l[i].from < l[i-1].to {
			t.Errorf("%s and %s share memory", l[i-1].what, l[i].what)
		}
	}
}

// spacious is a book of which each list has spare room, with something in it.
func spacious() api.Book {
	b := wideBook()
	b.Decomp = b.Decomp[:20]
	// Rows of which some are cut, and some are put together.
	b.Marks = []api.Span{{From: 5, To: 9}, {From: 10, To: 20}, {From: 30, To: 200}}
	b.Like = []api.Chars{{From: 5, To: 9, Is: []rune{5}}, {From: 10, To: 20, Is: []rune{5}}, {From: 30, To: 1200, Is: []rune{6, 7}}}
	b.Names = append(b.Names, "spare")[:len(b.Names)]
	for list := 2; list <= 11; list++ {
		l := rowsOf(b, list)
		for i := range l {
			l[i].is = append(slices.Clone(l[i].is), 7777)[:len(l[i].is)]
		}
		many := len(l)
		l = append(l, row{-7, -7, -7, []rune{-7}})
		b = setRows(b, list, l)
		b = shortened(b, list, many)
	}
	return b
}

// shortened is a book with a list cut, so that what is behind lies in its spare room.
func shortened(b api.Book, list, many int) api.Book {
	switch list {
	case api.ListStatus:
		b.Status = b.Status[:many]
	case api.ListMaps:
		b.Maps = b.Maps[:many]
	case api.ListClass:
		b.Class = b.Class[:many]
	case api.ListDecomp:
		b.Decomp = b.Decomp[:many]
	case api.ListExcluded:
		b.Excluded = b.Excluded[:many]
	case api.ListBidi:
		b.Bidi = b.Bidi[:many]
	case api.ListJoin:
		b.Join = b.Join[:many]
	case api.ListMarks:
		b.Marks = b.Marks[:many]
	case api.ListScript:
		b.Script = b.Script[:many]
	case api.ListLike:
		b.Like = b.Like[:many]
	}
	return b
}

// whole is a book with all its spare room, in memory of its own.
func whole(b api.Book) api.Book {
	chars := func(l []api.Chars) []api.Chars {
		l = slices.Clone(l[:cap(l)])
		for i := range l {
			l[i].Is = slices.Clone(l[i].Is[:cap(l[i].Is)])
		}
		return l
	}
	return api.Book{
		Names: slices.Clone(b.Names[:cap(b.Names)]), Status: slices.Clone(b.Status[:cap(b.Status)]), Maps: chars(b.Maps), Class: slices.Clone(b.Class[:cap(b.Class)]), Decomp: chars(b.Decomp), Excluded: slices.Clone(b.Excluded[:cap(b.Excluded)]),
		Bidi: slices.Clone(b.Bidi[:cap(b.Bidi)]), Join: slices.Clone(b.Join[:cap(b.Join)]), Marks: slices.Clone(b.Marks[:cap(b.Marks)]), Script: slices.Clone(b.Script[:cap(b.Script)]), Like: chars(b.Like),
	}
}

// spoil overwrites all of a book, its spare room too.
func spoil(b api.Book) {
	fill(b.Names, "spoiled")
	fill(b.Status, api.Value{From: -7, To: -7, N: -7})
	fill(b.Class, api.Value{From: -7, To: -7, N: -7})
	fill(b.Bidi, api.Value{From: -7, To: -7, N: -7})
	fill(b.Join, api.Value{From: -7, To: -7, N: -7})
	fill(b.Script, api.Value{From: -7, To: -7, N: -7})
	fill(b.Excluded, api.Span{From: -7, To: -7})
	fill(b.Marks, api.Span{From: -7, To: -7})
	for _, rows := range [][]api.Chars{b.Maps, b.Decomp, b.Like} {
		for _, r := range rows[:cap(rows)] {
			fill(r.Is, -7)
		}
		fill(rows, api.Chars{From: -7, To: -7})
	}
}

func fill[E any](l []E, wrong E) {
	l = l[:cap(l)]
	for i := range l {
		l[i] = wrong
	}
}

// Rule R4: what is handed in stays, with its spare room, and is not shared with what comes out; what comes out is new memory, every list of it.
func TestOwn(t *testing.T) {
	b, c := spacious(), spacious()
	wasB, wasC := whole(b), whole(c)
	isWrongAt(t, "the book", b, 0, 0)
	x := append([]api.Span{{From: 0, To: 12}, {From: 15, To: 1100}, {From: 1200, To: 5000}}, api.Span{From: -7, To: -7})[:3]
	wasX := slices.Clone(x[:cap(x)])
	text, _ := Print(b)
	rooms := append(roomsOf("handed in", b), roomOf("the set", x))
	rooms = append(rooms, roomsOf("handed in too", c)...)
	var books []api.Book
	var lists [][]api.Span
	for range 2 {
		Check(b)
		Sound(b)
		Counts(b)
		read, _, _ := Read(text)
		restricted, _ := Restrict(b, x)
		tidy, _ := Tidy(b)
		tables, _ := Compile(b)
		books = append(books, read, restricted, tidy, tables.book, tables.Book(), tables.Book())
		differ, _ := Differ(b, restricted)
		closure, _ := Closure(b, x)
		lists = append(lists, differ, closure)
		for _, p := range []rune{5, 33, 132, 1000, 1003} {
			flat, _ := Flat(b, p)
			rooms = append(rooms, roomsOfPoint(fmt.Sprint("Flat of ", p), flat)...)
			rooms = append(rooms, roomsOfPoint(fmt.Sprint("Point of ", p), tables.Point(p))...)
			rooms = append(rooms, roomsOfPoint(fmt.Sprint("calls of ", p), api.Point{Map: tables.Map(p), Parts: tables.Parts(p), Like: tables.Like(p)})...)
			defer runtime.KeepAlive(flat)
		}
	}
	for i, d := range books {
		rooms = append(rooms, roomsOf(fmt.Sprint("the book at ", i), d)...)
	}
	for i, l := range lists {
		if len(l) == 0 {
			t.Errorf("the list at %d is empty", i)
		}
		rooms = append(rooms, roomOf(fmt.Sprint("the list at ", i), l))
	}
	apart(t, rooms)
	if !sameBook(whole(b), wasB) || !sameBook(whole(c), wasC) || !slices.Equal(x[:cap(x)], wasX) {
		t.Error("what was handed in is changed")
	}
	runtime.KeepAlive([]any{b, c, x, books, lists})
}

// Rules R4 and R5: a book may be written over behind Compile, and so may what came out; the tables stay.
func TestTablesStay(t *testing.T) {
	want, b := spacious(), spacious()
	x := compiled(t, b)
	spoil(b)
	for range 2 {
		for _, p := range edges(want) {
			said := x.Point(p)
			if p >= 0 && p <= last && !samePoint(said, says(want, p)) {
				t.Fatalf("Point(%d): %v, not %v", p, said, says(want, p))
			}
			for _, l := range [][]rune{said.Map, said.Parts, said.Like, x.Map(p), x.Parts(p), x.Like(p)} {
				fill(l, -7)
			}
		}
		got := x.Book()
		if !sameBook(got, want) {
			t.Fatalf("Book: %v", got)
		}
		spoil(got)
		for n := range 66 {
			if x.Name(n) != nameOf(want.Names, n) {
				t.Errorf("Name(%d): %q", n, x.Name(n))
			}
		}
		if p, ok := x.Pair(40, 768); p != 1000 || !ok {
			t.Errorf("Pair: %d, %v", p, ok)
		}
	}
}

// Rules R4 and R5: the same is answered again when an answer was written over.
func TestAnswersStay(t *testing.T) {
	b := spacious()
	text, _ := Print(b)
	set := []api.Span{{From: 0, To: 12}, {From: 15, To: 1100}}
	for what, call := range map[string]func() api.Book{
		"Read":     func() api.Book { c, _, _ := Read(text); return c },
		"Restrict": func() api.Book { c, _ := Restrict(b, set); return c },
		"Tidy":     func() api.Book { c, _ := Tidy(b); return c },
	} {
		first, second := call(), call()
		spoil(first)
		if third := call(); !sameBook(second, third) || sameBook(first, third) {
			t.Errorf("%s: answers share memory", what)
		}
	}
	for what, call := range map[string]func() []api.Span{
		"Differ":  func() []api.Span { x, _ := Differ(b, api.Book{}); return x },
		"Closure": func() []api.Span { x, _ := Closure(b, set); return x },
	} {
		first, second := call(), call()
		fill(first, api.Span{From: -7, To: -7})
		if third := call(); !slices.Equal(second, third) || len(third) == 0 {
			t.Errorf("%s: answers share memory", what)
		}
	}
	for range 2 {
		if x, e := Flat(b, 33); !samePoint(x, says(b, 33)) || e != api.OK {
			t.Errorf("Flat: %v, %d", x, e)
		} else {
			fill(x.Map, -7)
			fill(x.Like, -7)
		}
	}
}

// Rule R3: an empty list may be nil or not.
func TestEmptyLists(t *testing.T) {
	none := api.Book{Names: []string{}, Status: []api.Value{}, Maps: []api.Chars{}, Class: []api.Value{}, Decomp: []api.Chars{}, Excluded: []api.Span{}, Bidi: []api.Value{}, Join: []api.Value{}, Marks: []api.Span{}, Script: []api.Value{}, Like: []api.Chars{}}
	isWrongAt(t, "empty lists", none, 0, 0)
	isSound(t, "empty lists", none, 1, 45)
	if x, e := Differ(none, api.Book{}); len(x) != 0 || e != api.OK {
		t.Errorf("Differ: %v, %d", x, e)
	}
	if x, e := Closure(sample(), []api.Span{}); len(x) != 0 || e != api.OK {
		t.Errorf("Closure: %v, %d", x, e)
	}
	if b, e := Restrict(sample(), []api.Span{}); !sameBook(b, api.Book{Names: sample().Names}) || e != api.OK {
		t.Errorf("Restrict: %v, %d", b, e)
	}
	isWrongAt(t, "a row with an empty list", api.Book{Maps: []api.Chars{{From: 5, To: 5, Is: []rune{}}}}, 3, 0)
}
