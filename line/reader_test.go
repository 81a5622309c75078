package line

import (
	"fmt"
	"slices"
	"strings"
	"testing"

	"postern/api"
)

// checkRead feeds one text in pieces to a Reader, behind so many lines, and holds lines and numbers after each of them against the text so far.
func checkRead(t *testing.T, r *Reader, pieces []string, ahead int) {
	t.Helper()
	text := ""
	var told []api.Line
	for _, piece := range pieces {
		text += piece
		told = append(told, r.Feed(piece)...)
		whole := text[:strings.LastIndexByte(text, '\n')+1]
		checkLines(t, fmt.Sprintf("%q behind %q", pieces, piece), told, wantLines(whole, ahead))
		if n := r.Number(); n != ahead+strings.Count(text, "\n") {
			t.Errorf("%q: Number() = %d behind %q", pieces, n, piece)
		}
	}
	end := r.End()
	if len(end) > 1 {
		t.Errorf("%q: End() = %#v", pieces, end)
	}
	checkLines(t, fmt.Sprintf("%q in all", pieces), append(told, end...), wantLines(text, ahead))
	if n := r.Number(); n != ahead+len(wantRows(text)) {
		t.Errorf("%q: Number() = %d behind the end, of %d lines", pieces, n, len(wantRows(text)))
	}
}

// Promises 9.4 and 9.5.
func TestReaderHoweverCut(t *testing.T) {
	for length := range 6 {
		texts(length, "a;#\n\r", func(s string) {
			cuts(s, func(pieces []string) { checkRead(t, NewReader(), pieces, 0) })
		})
	}
	for _, s := range []string{"a ; b # c\r\n\n", "\r\n\r\r\na\rb\r", "# n\r\na#\r\n;", "a\n\n\t\n b", "\n\n\n#\n\n;\r\n\r", " ;\t\r\n\r\n#;\r"} {
		cuts(s, func(pieces []string) { checkRead(t, NewReader(), pieces, 0) })
	}
}

// Promises 9.4 and 9.5: pieces of every size, one Reader for all texts, which counts on behind each end.
func TestReaderOfPiecesOfEverySize(t *testing.T) {
	r := NewReader()
	for _, s := range someTexts() {
		for size := 1; size <= len(s)+1; size++ {
			checkRead(t, r, pieces(s, size), r.Number())
		}
	}
}

func TestReaderWithEmptyPieces(t *testing.T) {
	checkRead(t, NewReader(), []string{"", "a", "", ";", "", "b\r", "", "\n", "", "c", ""}, 0)
	checkRead(t, NewReader(), []string{"", ""}, 0)
	checkRead(t, NewReader(), []string{"\n", "", "\r", "", "\n", ""}, 0)
}

// Promise 9.4, by hand.
func TestReaderStepByStep(t *testing.T) {
	r := NewReader()
	if r.Number() != 0 {
		t.Error("a new one:", r.Number())
	}
	for _, c := range []struct {
		feed   string
		want   []api.Line
		number int
	}{
		{"a;b", nil, 0}, {" # n", nil, 0}, {"\r", nil, 0}, {"\nc", []api.Line{of(1, "n", "a", "b")}, 1}, {"", nil, 1}, {"\n\n#\nd\ne", []api.Line{of(2, "", "c"), of(5, "", "d")}, 5}, {"\r", nil, 5}, {"f", nil, 5}, {"\r\n", []api.Line{of(6, "", "e\rf")}, 6}, {"\n", nil, 7}, {" \t", nil, 7}, {"\n", nil, 8}, {"# ;", nil, 8}, {"x\n", nil, 9}, {";", nil, 9}, {"g\r", nil, 9},
	} {
		checkLines(t, fmt.Sprintf("Feed(%q)", c.feed), r.Feed(c.feed), c.want)
		if n := r.Number(); n != c.number {
			t.Errorf("behind %q Number() = %d, not %d", c.feed, n, c.number)
		}
	}
	checkLines(t, "End()", r.End(), []api.Line{of(10, "", "", "g")})
	if n := r.Number(); n != 10 {
		t.Errorf("behind the end Number() = %d", n)
	}
}

// Promise 9.4: what is kept at the end, and whether it counts.
func TestReaderAtItsEnd(t *testing.T) {
	for s, number := range map[string]int{"": 0, "\n": 1, " ": 1, "\r": 1, "#": 1, "# n": 1, "\t\r": 1, "\n\r": 2, "\n ": 2, "\n#": 2, "\r\n": 1, "\n\n": 2, "# n\n": 1, "\r\n\r": 2} {
		r := NewReader()
		if l := r.Feed(s); len(l) != 0 {
			t.Errorf("Feed(%q) = %#v", s, l)
		}
		if n := r.Number(); n != strings.Count(s, "\n") {
			t.Errorf("behind %q Number() = %d", s, n)
		}
		for range 2 {
			if l := r.End(); len(l) != 0 || r.Number() != number {
				t.Errorf("behind %q End() = %#v, Number() = %d, not %d", s, l, r.Number(), number)
			}
		}
	}
}

// Promise 9.4: behind an end nothing is kept, and lines are counted on.
func TestReaderBehindItsEnd(t *testing.T) {
	r := NewReader()
	if l := r.End(); len(l) != 0 || r.Number() != 0 {
		t.Errorf("a new one: End() = %#v, %d", l, r.Number())
	}
	r.Feed("a\nb")
	checkLines(t, "End()", r.End(), []api.Line{of(2, "", "b")})
	if l := r.End(); len(l) != 0 || r.Number() != 2 {
		t.Errorf("a second End() = %#v, %d", l, r.Number())
	}
	checkLines(t, "Feed behind an end", r.Feed("c\nd"), []api.Line{of(3, "", "c")})
	checkLines(t, "Feed", r.Feed("\n"), []api.Line{of(4, "", "d")})
	if l := r.End(); len(l) != 0 || r.Number() != 4 {
		t.Errorf("End() behind a byte 10 = %#v, %d", l, r.Number())
	}
	r.Feed("e\r")
	checkLines(t, "End()", r.End(), []api.Line{of(5, "", "e")})
	// The byte 13 that was kept is gone with its line.
	if l := r.Feed("\n"); len(l) != 0 || r.Number() != 6 {
		t.Errorf("Feed = %#v, %d", l, r.Number())
	}
}

func TestReadersAreApart(t *testing.T) {
	a, b := NewReader(), NewReader()
	a.Feed("\na;")
	checkLines(t, "the other one", b.Feed("b\nc"), []api.Line{of(1, "", "b")})
	checkLines(t, "the one", a.Feed("d\ne"), []api.Line{of(2, "", "a", "d")})
	if a.Number() != 2 || b.Number() != 1 {
		t.Error(a.Number(), b.Number())
	}
	checkLines(t, "the other one", b.End(), []api.Line{of(2, "", "c")})
	if a.Number() != 2 {
		t.Error(a.Number())
	}
	checkLines(t, "the one", a.End(), []api.Line{of(3, "", "e")})
}

func TestNilReader(t *testing.T) {
	var r *Reader
	for _, s := range []string{"", "a", "a\n", "a\nb", "\n", "\r"} {
		if l := r.Feed(s); len(l) != 0 {
			t.Errorf("Feed(%q) = %#v", s, l)
		}
		if n := r.Number(); n != 0 {
			t.Errorf("Number() = %d", n)
		}
		if l := r.End(); len(l) != 0 {
			t.Errorf("End() = %#v", l)
		}
		if n := r.Number(); n != 0 {
			t.Errorf("Number() = %d", n)
		}
	}
}

// Rule R1, of a long line in short pieces: it should take no longer for each piece the more of them came ahead.
func TestReaderOfALongLine(t *testing.T) {
	const n = 1 << 20
	r := NewReader()
	r.Feed("a;")
	for range n {
		r.Feed("1")
	}
	if l := r.End(); len(l) != 1 || !slices.Equal(l[0].Fields, []string{"a", strings.Repeat("1", n)}) {
		t.Errorf("%d lines, want one of %d bytes", len(l), n)
	}
	checkRead(t, r, []string{strings.Repeat("a\n\n", 1<<12), strings.Repeat("#\r\n;\r\n", 1<<12)}, 1)
}
