package line

import (
	"slices"
	"strconv"
	"strings"
	"testing"

	"postern/api"
)

// checkText holds Lines and Read of a text against the model.
func checkText(t *testing.T, s string) {
	t.Helper()
	want := wantLines(s, 0)
	checkLines(t, "Lines of "+strconv.Quote(s), slices.Collect(Lines(s)), want)
	for _, l := range want {
		if len(l.Fields) > 64 {
			if got, number, e := Read(s); len(got) != 0 || number != l.Number || e != api.ErrFields {
				t.Errorf("Read(%q): %d lines, %d, %d, not %d", s, len(got), number, e, l.Number)
			}
			return
		}
	}
	got, number, e := Read(s)
	checkLines(t, "Read of "+strconv.Quote(s), got, want)
	if number != 0 || e != api.OK {
		t.Errorf("Read(%q): %d, %d", s, number, e)
	}
}

// Promise 9.1, by hand.
func TestLinesByHand(t *testing.T) {
	for s, want := range map[string][]api.Line{
		"0041..005A ; L # letters\r\n\n# only\n00E9;L;x": {of(1, "letters", "0041..005A", "L"), of(4, "", "00E9", "L", "x")},
		// The text's end, with a byte 10 and without.
		"": nil, "\n": nil, "a": {of(1, "", "a")}, "a\n": {of(1, "", "a")}, "a\n\n": {of(1, "", "a")}, "a\nb": {of(1, "", "a"), of(2, "", "b")}, "a\nb\n": {of(1, "", "a"), of(2, "", "b")},
		// Bytes 13: one is left out ahead of a byte 10 and at the end; others are bytes of the line.
		"a\r\nb": {of(1, "", "a"), of(2, "", "b")}, "a\r": {of(1, "", "a")}, "a\n\r": {of(1, "", "a")}, "\r": nil, "\r\n": nil, "a\r\r\n": {of(1, "", "a\r")}, "a\r\r": {of(1, "", "a\r")}, "\r\r": {of(1, "", "\r")}, "\r\r\n": {of(1, "", "\r")},
		"a\rb\n": {of(1, "", "a\rb")}, "\ra": {of(1, "", "\ra")}, "a\n\r\r\n": {of(1, "", "a"), of(2, "", "\r")}, "a\r;b\r\n": {of(1, "", "a\r", "b")}, "a # n\r\n": {of(1, "n", "a")}, "a # n\r": {of(1, "n", "a")}, "a # n\r\r\n": {of(1, "n\r", "a")}, "a # \r\n": {of(1, "", "a")}, "a\r # n": {of(1, "n", "a\r")},
		"a \r\n": {of(1, "", "a")}, "a\r \n": {of(1, "", "a\r")}, "a\n\r\nb": {of(1, "", "a"), of(3, "", "b")},
		// Empty lines, of which each counts.
		"\n\na": {of(3, "", "a")}, " \n\t\n \t \na": {of(4, "", "a")}, "#\na": {of(2, "", "a")}, "# n\n \t# n;m\na": {of(3, "", "a")}, "a\n\n\nb": {of(1, "", "a"), of(4, "", "b")}, "\r\n\r\na": {of(3, "", "a")}, "   ": nil, "# n": nil,
		// Notes.
		"a#n": {of(1, "n", "a")}, "a # n # m": {of(1, "n # m", "a")}, "a # n; m": {of(1, "n; m", "a")}, "a##": {of(1, "#", "a")}, "a #": {of(1, "", "a")}, "a # \t ": {of(1, "", "a")}, "a;b\t#\tn\t\n": {of(1, "n", "a", "b")}, "a#;": {of(1, ";", "a")}, "a # n  m\to": {of(1, "n  m\to", "a")},
		// Fields, empty ones with them.
		";": {of(1, "", "", "")}, ";a": {of(1, "", "", "a")}, "a;": {of(1, "", "a", "")}, "a;;b": {of(1, "", "a", "", "b")}, ";;": {of(1, "", "", "", "")}, " ; ": {of(1, "", "", "")}, ";# n": {of(1, "n", "", "")}, " a \t;\t b": {of(1, "", "a", "b")}, "a b;c\td": {of(1, "", "a b", "c\td")}, "a ; ; b ": {of(1, "", "a", "", "b")},
		// Other bytes that look like blanks or ends are bytes of the line.
		"\va\f\n": {of(1, "", "\va\f")}, "\x00": {of(1, "", "\x00")}, "\xff;\x80": {of(1, "", "\xff", "\x80")}, "\u00a0": {of(1, "", "\u00a0")}, "a\u2028b\u0085": {of(1, "", "a\u2028b\u0085")},
	} {
		checkLines(t, "Lines of "+strconv.Quote(s), slices.Collect(Lines(s)), want)
		got, number, e := Read(s)
		checkLines(t, "Read of "+strconv.Quote(s), got, want)
		if number != 0 || e != api.OK {
			t.Errorf("Read(%q): %d, %d", s, number, e)
		}
	}
}

// Promise 9.1, by the model.
func TestLinesOfMany(t *testing.T) {
	for length := range 7 {
		texts(length, "a ;#\n\r\t", func(s string) { checkText(t, s) })
	}
	for _, s := range someTexts() {
		checkText(t, s)
	}
}

// Promise 9.1: MaxFields fields, and one more.
func TestFieldsOfALine(t *testing.T) {
	if api.MaxFields != 64 {
		t.Error("MaxFields:", api.MaxFields)
	}
	most, more := manyFields(64), manyFields(65)
	for s, want := range map[string]int{
		most: 0, more: 1, most + "\n": 0, more + "\n": 1, most + ";": 1, ";" + most: 1, most + "#;": 0, "# " + more: 0, most + "\n" + most: 0, most + "\n" + more: 2, "\n\n#\n" + more + "\n" + more: 4, "a\n\r\n" + most + "\n" + most + " ; \n" + more: 4,
		strings.Repeat(";", 63): 0, strings.Repeat(";", 64): 1, "a\n" + strings.Repeat(" ;", 64): 2, strings.Repeat(";", 100000): 1,
	} {
		l, number, e := Read(s)
		if want == 0 && (e != api.OK || number != 0) || want > 0 && (e != api.ErrFields || number != want || len(l) != 0) {
			t.Errorf("Read(%.200q): %d lines, %d, %d, not %d", s, len(l), number, e, want)
		}
		checkLines(t, "Lines of many fields", slices.Collect(Lines(s)), wantLines(s, 0))
	}
}

// Promise 9.1: left, gone over again, and nested.
func TestLinesLeftAndNested(t *testing.T) {
	s := "a;b # n\n\n#\nc\n;d\r\ne"
	want := wantLines(s, 0)
	lines := Lines(s)
	for most := range len(want) + 1 {
		var got []api.Line
		for l := range lines {
			if len(got) == most {
				break
			}
			got = append(got, l)
		}
		checkLines(t, "left behind "+strconv.Itoa(most), got, want[:most])
		checkLines(t, "gone over again", slices.Collect(lines), want)
	}
	n := 0
	for outer := range lines {
		var got []api.Line
		for inner := range lines {
			got = append(got, inner)
		}
		checkLines(t, "nested", got, want)
		if !same(outer, want[n]) {
			t.Errorf("the outer one: %#v, not %#v", outer, want[n])
		}
		n++
	}
	if n != len(want) {
		t.Errorf("%d outer lines", n)
	}
	for most := range len(want) {
		calls := 0
		lines(func(api.Line) bool { calls++; return calls <= most })
		if calls != most+1 {
			t.Errorf("asked for %d lines, told %d", most+1, calls)
		}
	}
}

// The chapter's ways: where nobody asks for more, no more is made.
func TestLinesLeftEarly(t *testing.T) {
	s := strings.Repeat("a;b # c\n", 1<<17)
	n := testing.AllocsPerRun(10, func() {
		for range Lines(s) {
			break
		}
	})
	if n > 50 {
		t.Errorf("the first of many lines takes %v pieces of memory", n)
	}
	l, number, e := Read(s)
	if len(l) != 1<<17 || number != 0 || e != api.OK || !same(l[1<<17-1], of(1<<17, "c", "a", "b")) {
		t.Errorf("%d lines, %d, %d", len(l), number, e)
	}
}
