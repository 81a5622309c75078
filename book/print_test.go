package book

import (
	"fmt"
	"slices"
	"strings"
	"testing"

	"postern/api"
)

// wantPrint is Print of a book that may be, by the chapter's words.
func wantPrint(b api.Book) string {
	var s strings.Builder
	is := func(l []rune) string {
		var words []string
		for _, p := range l {
			words = append(words, fmt.Sprintf("%04X", p))
		}
		return "; " + strings.Join(words, " ")
	}
	write := func(list int, word func(r row) string, behind func(r row) string) {
		for _, r := range rowsOf(b, list) {
			fmt.Fprintf(&s, "%s; %04X", word(r), r.from)
			if r.to != r.from {
				fmt.Fprintf(&s, "..%04X", r.to)
			}
			s.WriteString(behind(r) + "\n")
		}
	}
	always := func(word string) func(row) string { return func(row) string { return word } }
	chars := func(r row) string { return is(r.is) }
	named := func(names string) func(row) string {
		return func(r row) string { return "; " + strings.Fields(names)[r.n] }
	}
	write(2, func(r row) string { return []string{"", "valid", "ignored", "deviation"}[r.n] }, always(""))
	write(3, always("mapped"), chars)
	write(4, always("class"), func(r row) string { return fmt.Sprintf("; %d", r.n) })
	write(5, always("decomposed"), chars)
	write(6, always("excluded"), always(""))
	write(7, always("bidi"), named("L R AL EN ES ET AN CS NSM BN ON B S WS LRE LRO RLE RLO PDF LRI RLI FSI PDI"))
	write(8, always("joining"), named("U L R D T C"))
	write(9, always("mark"), always(""))
	write(10, always("script"), func(r row) string { return "; " + b.Names[r.n-1] })
	write(11, always("like"), chars)
	return s.String()
}

// inOrder is a book whose names stand in the order in which its rows name them first, all of them.
func inOrder(b api.Book) api.Book {
	var names []string
	rows := slices.Clone(b.Script)
	for i, r := range rows {
		name := b.Names[r.N-1]
		if !slices.Contains(names, name) {
			names = append(names, name)
		}
		rows[i].N = 1 + slices.Index(names, name)
	}
	b.Names, b.Script = names, rows
	return b
}

// Promises 10.2 and 10.6: Print of many books, and Read of it.
func TestPrintOfMany(t *testing.T) {
	for _, b := range someBooks(106, 1500) {
		s, e := Print(b)
		if s != wantPrint(b) || e != api.OK {
			t.Fatalf("Print(%v): %q, %d", b, s, e)
		}
		c := inOrder(b)
		if s, e = Print(c); e != api.OK {
			t.Fatalf("Print(%v): %d", c, e)
		}
		readsAs(t, s, c)
	}
}

// Promise 10.2: spans of one code point and of more, at all lengths of numbers; every number and name.
func TestPrint(t *testing.T) {
	for _, c := range []struct {
		from, to rune
		want     string
	}{
		{0, 0, "0000"}, {0, 1, "0000..0001"}, {0xab, 0xab, "00AB"}, {0xffff, 0x10000, "FFFF..10000"}, {0xabcde, 0xfffff, "ABCDE..FFFFF"}, {0x10ffff, 0x10ffff, "10FFFF"}, {0, 0x10ffff, "0000..10FFFF"},
	} {
		for list, want := range map[int]string{2: "valid; %s\n", 3: "mapped; %s; 0061\n", 7: "bidi; %s; R\n", 8: "joining; %s; L\n", 9: "mark; %s\n", 10: "script; %s; Han\n", 11: "like; %s; 0061\n"} {
			b := setRows(api.Book{Names: []string{"Han"}}, list, []row{plainRow(list, c.from, c.to)})
			if s, e := Print(b); s != fmt.Sprintf(want, c.want) || e != api.OK {
				t.Errorf("Print(%v): %q, %d", b, s, e)
			}
		}
	}
	for _, c := range []struct{ list, least, most int }{{2, 1, 3}, {4, 1, 254}, {7, 0, 22}, {8, 0, 5}, {10, 1, 64}} {
		b := api.Book{Names: letters(64)}
		for n := c.least; n <= c.most; n++ {
			b = addRow(b, c.list, rune(2*n), rune(2*n), n)
		}
		if s, e := Print(b); s != wantPrint(b) || e != api.OK {
			t.Errorf("Print: %q, %d", s, e)
		}
		readsAs(t, wantPrint(b), inOrder(b))
	}
	if s, e := Print(api.Book{Names: []string{"Latin"}}); s != "" || e != api.OK {
		t.Errorf("Print of no rows: %q, %d", s, e)
	}
	if s, e := Print(sample()); s != api.Sample || e != api.OK {
		t.Errorf("Print of the sample: %q, %d", s, e)
	}
}

// Promise 10.6: MaxLines rows are read again, and one more is not; Print knows no such bound.
func TestPrintManyRows(t *testing.T) {
	var b api.Book
	for i := range rune(65536) {
		p := 0x20000 + i
		b.Status = append(b.Status, api.Value{From: p, To: p, N: 1})
		b.Bidi = append(b.Bidi, api.Value{From: p, To: p, N: int(i % 23)})
		b.Marks = append(b.Marks, api.Span{From: p, To: p})
		b.Like = append(b.Like, api.Chars{From: p, To: p, Is: []rune{p + 1}})
	}
	s, e := Print(b)
	if strings.Count(s, "\n") != 262144 || e != api.OK {
		t.Fatalf("Print: %d lines, %d", strings.Count(s, "\n"), e)
	}
	readsAs(t, s, b)
	b.Excluded = []api.Span{{From: 5, To: 5}}
	s, e = Print(b)
	if strings.Count(s, "\n") != 262145 || e != api.OK {
		t.Fatalf("Print: %d lines, %d", strings.Count(s, "\n"), e)
	}
	failsAt(t, s, 0, api.ErrLines)
}

// The chapter's example 1.
func TestReadExample(t *testing.T) {
	want := api.Book{
		Names:  []string{"Latin"},
		Status: []api.Value{{From: 97, To: 122, N: 1}},
		Maps:   []api.Chars{{From: 65, To: 65, Is: []rune{97}}},
		Script: []api.Value{{From: 97, To: 122, N: 1}},
	}
	readsAs(t, example, want)
	if s, e := Print(want); s != strings.ReplaceAll(example, " # small", "") || e != api.OK {
		t.Errorf("Print: %q, %d", s, e)
	}
	failsAt(t, "valid\n", 1, api.ErrFields)
	failsAt(t, "vali; 0\n", 1, api.ErrKind)
	failsAt(t, "bidi; 0041; X", 1, api.ErrCalled)
}

// example is the lines of the chapter's example 1.
const example = "valid; 0061..007A\nmapped; 0041; 0061\nscript; 0061..007A; Latin # small\n"
