package span

import (
	"math/rand"
	"strings"
	"testing"

	"postern/api"
)

// Promise 7.4: sets and their texts, both ways; and 7.5.
func TestTexts(t *testing.T) {
	for s, x := range map[string][]api.Span{
		"": nil, "0041-005A,005F": of(65, 90, 95, 95), "0000": of(0, 0), "0000-0001": of(0, 1), "10FFFF": of(api.MaxPoint, api.MaxPoint), "10FFFE-10FFFF": of(api.MaxPoint-1, api.MaxPoint), "0000-10FFFF": of(0, api.MaxPoint),
		"0FFF-1000": of(0xfff, 0x1000), "FFFF-10000": of(0xffff, 0x10000), "FFFFF-100000": of(0xfffff, 0x100000), "FFFD,FFFF,10001": of(0xfffd, 0xfffd, 0xffff, 0xffff, 0x10001, 0x10001), "ABCD-ABCE,ABD0,DEF01": of(0xabcd, 0xabce, 0xabd0, 0xabd0, 0xdef01, 0xdef01),
		"0001,0003-0005,0007": of(1, 1, 3, 5, 7, 7), "D800-DFFF": of(0xd800, 0xdfff), "10FFFD,10FFFF": of(api.MaxPoint-2, api.MaxPoint-2, api.MaxPoint, api.MaxPoint), "1000,10000,100000": of(0x1000, 0x1000, 0x10000, 0x10000, 0x100000, 0x100000),
	} {
		if text, e := Text(x); text != s || e != api.OK {
			t.Errorf("Text(%v): %q, %d, not %q", x, text, e, s)
		}
		if y, at, e := Parse(s); !alike(y, x) || at != 0 || e != api.OK {
			t.Errorf("Parse(%q): %v, %d, %d, not %v", s, y, at, e, x)
		}
	}
	if s, e := Text([]api.Span{}); s != "" || e != api.OK {
		t.Errorf("Text of an empty list: %q, %d", s, e)
	}
}

// Promise 7.4: the first byte with which a text is a beginning of none, at each place of the grammar, and texts that are a beginning only.
func TestTextFaults(t *testing.T) {
	for s, want := range map[string]int{
		"0041-0040": 8, "41": 2, "0041,0042": 8, "110000": 5,
		// Fewer than four digits, and noughts ahead of more than four.
		"0": 1, "004": 3, "1": 1, "FFF": 3, "0041-5": 6, "0041-04,": 7, "041,": 3, "041-": 3, "41-0042": 2, "00041": 4, "000041": 4, "0041-00042": 7, "0041-00442": 9, "0041,00043": 7, "0041,00443": 9, "0FFFFF": 4, "00000": 4,
		// Small letters and other bytes that may not stand there.
		"a": 0, "004a": 3, "004A-004b": 8, "004A,004c": 8, "00 41": 2, " 0041": 0, "0041 ": 4, "0041\n": 4, "G": 0, "@": 0, "/": 0, ":": 0, "`": 0, "0041x": 4, "U+0041": 0, "0x41": 1, "0041\x00": 4, "\xff": 0, "+0041": 0, "0041;0043": 4, "0041..0043": 4, "0041_": 4,
		// Signs where no number is whole.
		"-": 0, ",": 0, "--": 0, ",,": 0, ",0041": 0, "-0041": 0, "0041--": 5, "0041,,": 5, "0041-,": 5, "0041,-": 5, "0041-0042-": 9, "0041-0042-0043": 9, "0041-0043,-": 10,
		// A To that is not above its From.
		"0041-0041": 8, "0041-003": 7, "0041-0040,": 8, "1000-0": 5, "1000-1000": 9, "1000-1000,": 9, "1000-10000": -1, "1001-1000": 9, "1001-1000,": 9, "FFFF-FFFF": 9, "FFFF-FFFF,": 9, "FFFF-FFFF0": -1, "FFFF-0": 5, "F000-1000": 9, "F000-1000F": -1, "20000-1": 7, "20000-11": 7, "20000-10": 8, "20000-100": 9, "20000-1000": 10, "20000-10000": 11, "20000-10000,": 11, "20000-100000": -1, "20000-12": 7, "20000-2": 7, "20000-2000": 10, "20000-20000": 10, "20000-20001": -1, "FFFFF-F": 6, "FFFFF-2": 6, "FFFFF-11": 7, "10FFFE-10FFFE": 12, "10FFFE-10FFFF": -1, "100000-0FFF": 7,
		// A From that touches or lies below what stands ahead.
		"0041,0041": 8, "0041,0040": 8, "0041,003": 7, "0041,0043": -1, "0041-0043,0044": 13, "0041-0043,0043": 13, "0041-0043,0042": 13, "0041-0043,0045": -1, "0041-0043,0041": 13, "1000,0": 5, "1000,1001": 9, "1000,1001,": 9, "1000,1001-": 9, "1000,1002": -1, "5000,1000": 9, "5000,1000,": 9, "5000,1000-": 9, "5000,10000": -1, "FFFE,FFFF": 9, "FFFE,FFFF,": 9, "FFFE,FFFF0": -1, "FFFE,10000": -1, "FFFF,10000": 10, "FFFF,10001": -1, "FFFFE,FFFFF": 6, "FFFFC,FFFFD": 10, "FFFFE,100000": -1, "FFFFE,F": 6, "FFFFF,100000": 11, "10FFFC,10FFFD": 12,
		// Numbers above MaxPoint, and what can follow MaxPoint and those below it.
		"11FFFF": 5, "200000": 5, "FFFFFF": 5, "FFFFF0": 5, "10FFFFF": 6, "1000000": 6, "100000000": 6, "10FFFF-": 6, "10FFFF,": 6, "10FFFE,": 6, "10FFFE-": 7, "10FFFD,": 7, "10FFFD-10FFFE,": 13, "10FFFC-10FFFD,": 14, "10FFFE-10FFFF,": 13, "0000-10FFFF,": 11, "0000-10FFFD,": 12, "0000-110000": 10, "0000,110000": 10, "FFFFF-110000": 7,
		// A comma or a hyphen at the end.
		"0041,": 5, "0041-": 5, "0041-005A,": 10, "0041-005A,005F,": 15, "0041-005A,005F-": 15,
	} {
		x, at, e := Parse(s)
		if want < 0 && (e != api.OK || at != 0 || len(x) == 0) || want >= 0 && (e != api.ErrText || at != want || len(x) != 0) {
			t.Errorf("Parse(%q): %v, %d, %d, not %d", s, x, at, e, want)
		}
	}
}

// Promise 7.4: texts with one byte changed, put in or left out, and their beginnings, by the model.
func TestTextsBeside(t *testing.T) {
	const others = "0127EF-,aG"
	for _, s := range []string{
		"", "0041-005A,005F", "0041,0043-10FFFF", "FFFE-10000,10002", "1000,5000,10000-10001", "20000-100000,10FFFF", "10FFFD,10FFFF", "FFFFD,FFFFF-100001", "0FFF-1000,1002,10020", "10FF,10FF1-10FF2,10FFF4",
	} {
		for i := range len(s) + 1 {
			held(t, s[:i])
			for j := range len(others) {
				held(t, s[:i]+others[j:j+1])
				held(t, s[:i]+others[j:j+1]+s[i:])
				if i < len(s) {
					held(t, s[:i]+others[j:j+1]+s[i+1:])
				}
			}
			if i < len(s) {
				held(t, s[:i]+s[i+1:])
			}
		}
	}
}

// Promise 7.4: texts that grow byte by byte, mostly by bytes with which they are a beginning still, by the model.
func TestTextsOfMany(t *testing.T) {
	const bytes = "000111FFFE0123456789ABCDEF--,,,"
	r := rand.New(rand.NewSource(75))
	for range 2000 {
		s := ""
		for range r.Intn(60) {
			next := s + bytes[r.Intn(len(bytes)):][:1]
			if r.Intn(12) == 0 || begins(next) {
				s = next
			}
		}
		held(t, s)
	}
}

// held holds Parse against the model.
func held(t *testing.T, s string) {
	t.Helper()
	x, at, e := Parse(s)
	want, wantAt, wantE := readText(s)
	if !alike(x, want) || at != wantAt || e != wantE {
		t.Errorf("Parse(%q): %v, %d, %d, not %v, %d, %d", s, x, at, e, want, wantAt, wantE)
	}
	if text, f := Text(x); e == api.OK && (text != s || f != api.OK) {
		t.Errorf("Text of Parse of %q: %q, %d", s, text, f)
	}
}

// Promise 7.4: texts of MaxSpans spans and of more; a fault is told ahead of too many spans.
func TestLongTexts(t *testing.T) {
	most := row(api.MaxSpans, 0x10, 3, 2)
	s, e := Text(most)
	if e != api.OK {
		t.Fatal(e)
	}
	if x, at, e := Parse(s); !alike(x, most) || at != 0 || e != api.OK {
		t.Errorf("Parse of MaxSpans spans: %d spans, %d, %d", len(x), at, e)
	}
	if x, at, e := Parse(s + ",10FFFF"); len(x) != 0 || at != 0 || e != api.ErrSpans {
		t.Errorf("Parse of one span more: %d spans, %d, %d", len(x), at, e)
	}
	for end, more := range map[string]int{",10FFFF,": 7, ",10FFF": 6, ",10FFFF-": 7, ",0": 1, "x": 0, ",": 1, ",10FFF0,10FFF1": 13} {
		if x, at, e := Parse(s + end); len(x) != 0 || at != len(s)+more || e != api.ErrText {
			t.Errorf("Parse with %q at the end: %d spans, %d, %d, not %d", end, len(x), at, e, len(s)+more)
		}
	}
	var l []string
	for p := rune(0); p <= api.MaxPoint; p += 2 {
		l = append(l, written(p))
	}
	all := strings.Join(l, ",")
	if x, at, e := Parse(all); len(x) != 0 || at != 0 || e != api.ErrSpans {
		t.Errorf("Parse of all even ones: %d spans, %d, %d", len(x), at, e)
	}
	if x, at, e := Parse(all + ","); len(x) != 0 || at != len(all) || e != api.ErrText {
		t.Errorf("Parse of all even ones and a comma: %d spans, %d, %d", len(x), at, e)
	}
}
