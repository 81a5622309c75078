package line

import (
	"math"
	"slices"
	"strconv"
	"strings"
	"testing"

	"postern/api"
)

// Promise 9.3.
func TestFields(t *testing.T) {
	for n := range 6 {
		l := api.Line{Number: 1, Fields: make([]string, n)}
		for _, least := range []int{math.MinInt, -1, 0, 1, 2, 3, 4, 5, 6, math.MaxInt} {
			for _, most := range []int{math.MinInt, -1, 0, 1, 2, 3, 4, 5, 6, math.MaxInt} {
				want := api.ErrFields
				if least <= n && n <= most {
					want = api.OK
				}
				if e := Fields(l, least, most); e != want {
					t.Errorf("%d fields, %d to %d: %d, not %d", n, least, most, e, want)
				}
			}
		}
	}
	if e := Fields(of(1, "", "a", "b"), 2, 2); e != api.OK {
		t.Error(e)
	}
	if e := Fields(of(1, "", "a", "b"), 3, 1); e != api.ErrFields {
		t.Error("least above most:", e)
	}
	if e := Fields(api.Line{Fields: make([]string, 65)}, 0, 65); e != api.OK {
		t.Error("more than MaxFields:", e)
	}
}

// Promise 9.3, by hand.
func TestPrintByHand(t *testing.T) {
	for want, l := range map[string]api.Line{
		"a; b # n\n": of(0, "n", "a", "b"), "a\n": of(7, "", "a"), "a # n\n": of(-1, "n", "a"), "; \n": of(0, "", "", ""), "; a\n": of(0, "", "", "a"), "a; \n": of(0, "", "a", ""), "a; ; b\n": of(0, "", "a", "", "b"), ";  # n\n": of(0, "n", "", ""), "; ; \n": of(0, "", "", "", ""),
		"a # #\n": of(0, "#", "a"), "a # ;\n": of(0, ";", "a"), "a # n; m # o\n": of(0, "n; m # o", "a"), "a b\tc; d # n \tm\n": of(0, "n \tm", "a b\tc", "d"), "\x00; \xff # \x80\n": of(0, "\x80", "\x00", "\xff"), "\v; \f # \v\n": of(0, "\v", "\v", "\f"), "0041..005A; L # letters\n": of(math.MinInt, "letters", "0041..005A", "L"),
		manyFieldsPrinted(65): {Fields: strings.Split(manyFields(65), ";")},
	} {
		if s, e := Print(l); s != want || e != api.OK {
			t.Errorf("Print(%#v): %q, %d, not %q", l, s, e, want)
		}
	}
	for _, l := range []api.Line{
		{}, of(1, "n"), {Number: 1, Fields: []string{}}, of(1, "", ""), of(1, "n", ""), of(1, "", " "), of(1, "", "\t"), of(1, "", "a", " "), of(1, " ", "a"), of(1, "\t", "a"), of(1, " n", "a"), of(1, "n ", "a"), of(1, "\tn", "a"), of(1, "n\t", "a"), of(1, "n\n", "a"), of(1, "\nn", "a"), of(1, "n\nm", "a"), of(1, "n\rm", "a"), of(1, "\r", "a"), of(1, "n\r", "a"),
		of(1, "\n", "", ""), of(1, "n", "", " a"), of(1, "n", "a;b", "c"), of(1, "n", "c", "a#b"),
	} {
		if s, e := Print(l); s != "" || e != api.ErrArg {
			t.Errorf("Print(%#v): %q, %d", l, s, e)
		}
	}
}

func manyFieldsPrinted(n int) string { return strings.Repeat("a; ", n-1) + "a\n" }

// Promise 9.3: each byte at each place of a field and of the note.
func TestPrintOfEachByte(t *testing.T) {
	for n := range 256 {
		b := string([]byte{byte(n)})
		isEnd := b == "\n" || b == "\r"
		isBlank := b == " " || b == "\t"
		isSign := b == ";" || b == "#"
		for _, c := range []struct {
			text  string
			inner bool
		}{{b + "x", false}, {"x" + b, false}, {"x" + b + "y", true}, {b, false}, {b + "x" + b, false}} {
			bad := isEnd || isBlank && !c.inner
			checkPrint(t, of(1, c.text, "f"), bad)
			checkPrint(t, of(1, c.text, "f", "g"), bad)
			checkPrint(t, of(1, "", c.text), bad || isSign)
			checkPrint(t, of(1, "n", c.text, "g"), bad || isSign)
			checkPrint(t, of(1, "n", "f", c.text), bad || isSign)
			checkPrint(t, of(1, "", "f", c.text, ""), bad || isSign)
		}
	}
}

// checkPrint tells whether a line is printed or refused, as it must be, and, by 9.5, whether it is read again.
func checkPrint(t *testing.T, l api.Line, bad bool) {
	t.Helper()
	s, e := Print(l)
	if bad {
		if s != "" || e != api.ErrArg {
			t.Errorf("Print(%#v): %q, %d, not ErrArg", l, s, e)
		}
		return
	}
	if e != api.OK {
		t.Errorf("Print(%#v): %d", l, e)
		return
	}
	l.Number = 1
	checkLines(t, "Lines of Print of "+strconv.Quote(s), slices.Collect(Lines(s)), []api.Line{l})
}

// Promise 9.5: what was read is printed, and that is read again as the same line, with the number 1.
func TestPrintOfWhatIsRead(t *testing.T) {
	check := func(s string) {
		for l := range Lines(s) {
			// A byte 13 may stand within what is read, and not in what is printed.
			bad := strings.Contains(strings.Join(l.Fields, "")+l.Note, "\r")
			checkPrint(t, l, bad)
		}
	}
	for length := range 7 {
		texts(length, "a ;#\n\r", check)
	}
	for _, s := range someTexts() {
		check(s)
	}
}

// Promise 9.3, by hand.
func TestTellByHand(t *testing.T) {
	for want, r := range map[string][]rune{
		"0041 1F600": {65, 128512}, "": nil, "0000": {0}, "0000 0000": {0, 0}, "10FFFF": {api.MaxPoint}, "000F": {15}, "00FF": {255}, "0FFF": {4095}, "1000": {4096}, "ABCD": {0xabcd}, "FFFF": {65535}, "10000": {65536}, "FFFFF": {1048575}, "100000": {1048576}, "D800 DFFF": {0xd800, 0xdfff}, "0001 10FFFF 0001": {1, api.MaxPoint, 1},
	} {
		if s, e := Tell(r); s != want || e != api.OK {
			t.Errorf("Tell(%v): %q, %d, not %q", r, s, e, want)
		}
	}
	if s, e := Tell([]rune{}); s != "" || e != api.OK {
		t.Errorf("Tell of an empty list: %q, %d", s, e)
	}
	for _, r := range [][]rune{{-1}, {api.MaxPoint + 1}, {65, -1}, {65, api.MaxPoint + 1}, {-1, 65}, {api.MaxPoint + 1, 65}, {65, -1, 66}, {math.MinInt32}, {math.MaxInt32}, {0, math.MinInt32, api.MaxPoint}, {-65}} {
		if s, e := Tell(r); s != "" || e != api.ErrPoint {
			t.Errorf("Tell(%v): %q, %d", r, s, e)
		}
	}
}

// Promises 9.3 and 9.5: each code point, alone and among all.
func TestTellOfMany(t *testing.T) {
	var all []rune
	for p := range rune(api.MaxPoint + 1) {
		all = append(all, p)
		s, e := Tell([]rune{p})
		want := strings.ToUpper(strconv.FormatInt(int64(p), 16))
		for len(want) < 4 {
			want = "0" + want
		}
		if s != want || e != api.OK {
			t.Fatalf("Tell(%d): %q, %d", p, s, e)
		}
	}
	s, e := Tell(all)
	if e != api.OK {
		t.Fatal(e)
	}
	if l, at, e := Sequence(s); !slices.Equal(l, all) || at != 0 || e != api.OK {
		t.Errorf("Sequence of Tell of all: %d, %d, %d", len(l), at, e)
	}
}
