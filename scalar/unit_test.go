package scalar

import (
	"cmp"
	"slices"
	"strconv"
	"strings"
	"testing"

	"postern/api"
)

// wantFromUnits is what units say, by the chapter's words.
func wantFromUnits(l []uint16) []rune {
	var told []rune
	for i := 0; i < len(l); i++ {
		u := rune(l[i])
		switch {
		case 55296 <= u && u <= 56319 && i+1 < len(l) && 56320 <= l[i+1] && l[i+1] <= 57343:
			told = append(told, 65536+(u-55296)*1024+rune(l[i+1])-56320)
			i++
		case 55296 <= u && u <= 57343:
			told = append(told, 65533)
		default:
			told = append(told, u)
		}
	}
	return told
}

// unitLists goes through all lists of some lengths over units at the edges.
func unitLists(visit func([]uint16)) {
	edges := []uint16{0, 97, 55295, 55296, 55357, 56319, 56320, 56832, 57343, 57344, 65535}
	places := make([]byte, len(edges))
	for i := range places {
		places[i] = byte(i)
	}
	visit(nil)
	for length := 1; length <= 4; length++ {
		texts(length, places, func(s string) {
			l := make([]uint16, length)
			for i := range l {
				l[i] = edges[s[i]]
			}
			visit(l)
		})
	}
}

// Promises 2.4 and 2.6, of each scalar value.
func TestUnitsOfEachScalar(t *testing.T) {
	for r := rune(0); r <= 1114111; r++ {
		if !wantScalar(r) {
			continue
		}
		u, at, e := Units([]rune{r})
		if !slices.Equal(u, wantUnits([]rune{r})) || at != 0 || e != api.OK {
			t.Errorf("Units(%d) = %v, %d, %d", r, u, at, e)
		}
		if back := FromUnits(u); !slices.Equal(back, []rune{r}) {
			t.Errorf("FromUnits(%v) = %v, want %d", u, back, r)
		}
	}
}

func TestUnits(t *testing.T) {
	for _, c := range []struct {
		l    []rune
		want []uint16
	}{
		{nil, nil}, {[]rune{128512}, []uint16{55357, 56832}}, {[]rune{97, 65535, 65536, 98}, []uint16{97, 65535, 55296, 56320, 98}},
		{[]rune{1114111, 55295, 57344}, []uint16{56319, 57343, 55295, 57344}}, {[]rune{0, 65533}, []uint16{0, 65533}},
	} {
		if u, at, e := Units(c.l); !slices.Equal(u, c.want) || at != 0 || e != api.OK {
			t.Errorf("Units(%v) = %v, %d, %d, want %v", c.l, u, at, e, c.want)
		}
		if back := FromUnits(c.want); !slices.Equal(back, c.l) {
			t.Errorf("FromUnits(%v) = %v, want %v", c.want, back, c.l)
		}
	}
}

func TestFromUnits(t *testing.T) {
	for _, c := range []struct {
		l    []uint16
		want []rune
	}{
		{nil, nil}, {[]uint16{55357}, []rune{65533}}, {[]uint16{56832, 55357}, []rune{65533, 65533}},
		{[]uint16{55357, 55357, 56832}, []rune{65533, 128512}}, {[]uint16{55357, 56832, 56832}, []rune{128512, 65533}},
		{[]uint16{55357, 97}, []rune{65533, 97}}, {[]uint16{55295, 56320}, []rune{55295, 65533}}, {[]uint16{55296, 57344}, []rune{65533, 57344}},
	} {
		if got := FromUnits(c.l); !slices.Equal(got, c.want) {
			t.Errorf("FromUnits(%v) = %v, want %v", c.l, got, c.want)
		}
	}
	unitLists(func(l []uint16) {
		if got, want := FromUnits(l), wantFromUnits(l); !slices.Equal(got, want) {
			t.Errorf("FromUnits(%v) = %v, want %v", l, got, want)
		}
	})
}

// Each pair of a high unit and a low one, and each unit alone.
func TestFromUnitsOfEachUnit(t *testing.T) {
	for u := range 65536 {
		if got, want := FromUnits([]uint16{uint16(u)}), wantFromUnits([]uint16{uint16(u)}); !slices.Equal(got, want) {
			t.Errorf("FromUnits(%d) = %v, want %v", u, got, want)
		}
		for _, l := range [][]uint16{{55296, uint16(u)}, {56319, uint16(u)}, {uint16(u), 56320}, {uint16(u), 57343}} {
			if got, want := FromUnits(l), wantFromUnits(l); !slices.Equal(got, want) {
				t.Errorf("FromUnits(%v) = %v, want %v", l, got, want)
			}
		}
	}
}

// checkUnitsFed feeds units in pieces, and holds what is told and held back after each of them against the units so far.
func checkUnitsFed(t *testing.T, pieces [][]uint16) {
	t.Helper()
	d := NewUnitDecoder()
	var all []uint16
	var told []rune
	for _, piece := range pieces {
		all = append(all, piece...)
		told = append(told, d.Feed(piece)...)
		sure, held, is := all, uint16(0), false
		if n := len(all); n > 0 && 55296 <= all[n-1] && all[n-1] <= 56319 {
			sure, held, is = all[:n-1], all[n-1], true
		}
		if u, ok := d.Held(); u != held || ok != is || !slices.Equal(told, wantFromUnits(sure)) {
			t.Errorf("%v: told %v and holds %d, %v, want %v and %d, %v", pieces, told, u, ok, wantFromUnits(sure), held, is)
		}
	}
	told = append(told, d.End()...)
	if u, ok := d.Held(); u != 0 || ok || !slices.Equal(told, wantFromUnits(all)) {
		t.Errorf("%v: told %v in all and holds %d, %v, want %v", pieces, told, u, ok, wantFromUnits(all))
	}
}

// Promises 2.10 and 2.11.
func TestUnitDecoderHoweverCut(t *testing.T) {
	unitLists(func(l []uint16) {
		// The places of the units, cut as a text is.
		places := ""
		for i := range l {
			places += string([]byte{byte(i)})
		}
		cuts(places, func(cut []string) {
			pieces := [][]uint16{}
			for _, part := range cut {
				from := int(part[0])
				pieces = append(pieces, l[from:from+len(part)])
			}
			checkUnitsFed(t, pieces)
		})
	})
	checkUnitsFed(t, [][]uint16{{}, {55357}, nil, {}, {56832, 97}, nil})
}

func TestUnitDecoderStepByStep(t *testing.T) {
	d := NewUnitDecoder()
	for _, c := range []struct {
		feed []uint16
		want []rune
		held uint16
	}{
		{[]uint16{97, 55357}, []rune{97}, 55357}, {[]uint16{56832}, []rune{128512}, 0}, {[]uint16{55296}, nil, 55296},
		{nil, nil, 55296}, {[]uint16{56319}, []rune{65533}, 56319}, {[]uint16{0}, []rune{65533, 0}, 0}, {[]uint16{57343}, []rune{65533}, 0},
		{[]uint16{55296}, nil, 55296},
	} {
		got := d.Feed(c.feed)
		if u, ok := d.Held(); !slices.Equal(got, c.want) || u != c.held || ok != (c.held != 0) {
			t.Errorf("Feed(%v) = %v and holds %d, %v, want %v and %d", c.feed, got, u, ok, c.want, c.held)
		}
	}
	if got := d.End(); !slices.Equal(got, []rune{65533}) {
		t.Errorf("End() = %v, want 65533", got)
	}
	if got := d.End(); len(got) != 0 {
		t.Errorf("a second End() = %v", got)
	}
	if got := d.Feed([]uint16{56832}); !slices.Equal(got, []rune{65533}) {
		t.Errorf("Feed behind an end = %v, want 65533", got)
	}
}

func TestUnitDecodersAreApart(t *testing.T) {
	a, b := NewUnitDecoder(), NewUnitDecoder()
	a.Feed([]uint16{55357})
	if u, ok := b.Held(); u != 0 || ok {
		t.Errorf("the other one holds %d, %v", u, ok)
	}
	if got := b.Feed([]uint16{56832}); !slices.Equal(got, []rune{65533}) {
		t.Errorf("the other one told %v", got)
	}
}

func TestNilUnitDecoder(t *testing.T) {
	var d *UnitDecoder
	for _, l := range [][]uint16{nil, {97}, {55357}} {
		if got := d.Feed(l); len(got) != 0 {
			t.Errorf("Feed(%v) = %v", l, got)
		}
		if got := d.End(); len(got) != 0 {
			t.Errorf("End() = %v", got)
		}
		if u, ok := d.Held(); u != 0 || ok {
			t.Errorf("Held() = %d, %v", u, ok)
		}
	}
}

// Rule R4: neither what was handed in nor what was told has a way into the UnitDecoder.
func TestWhatAUnitDecoderToldMayBeChanged(t *testing.T) {
	d := NewUnitDecoder()
	for range 3 {
		in := []uint16{97, 55357}
		told := d.Feed(in)
		if !slices.Equal(told, []rune{97}) {
			t.Errorf("told %v", told)
		}
		spoil(in, 1)
		spoil(told, 1)
		told = d.Feed([]uint16{56832, 55357})
		if !slices.Equal(told, []rune{128512}) {
			t.Errorf("told %v", told)
		}
		spoil(told, 1)
		end := d.End()
		if !slices.Equal(end, []rune{65533}) {
			t.Errorf("told %v at the end", end)
		}
		spoil(end, 1)
	}
}

func TestCompare(t *testing.T) {
	for _, c := range []struct {
		a, b string
		want int
	}{
		{"", "", 0}, {"", "a", -1}, {"a", "a", 0}, {"a", "b", -1}, {"a", "ab", -1}, {"b", "ab", 1},
		{"\xef\xbf\xbf", "\xf0\x90\x80\x80", 1}, {"\xee\x80\x80", "\xf4\x8f\xbf\xbf", 1}, {"\xed\x9f\xbf", "\xf0\x90\x80\x80", -1},
		{"\xf0\x90\x80\x80", "\xf0\x90\x80\x81", -1}, {"\xf0\x90\x8f\xbf", "\xf0\x90\x90\x80", -1},
		// Texts that say the same are the same.
		{"\xff", "\xef\xbf\xbd", 0}, {"\xe2\x82", "\xff", 0}, {"\xf0\x9f\x98A", "\x80A", 0}, {"\xe2\x82\xff", "\xff", 1}, {"\xff", "\xfe\x00", -1},
		{"\xff", "\xf0\x9f\x98\x80", 1}, {"z\xff", "z\xef\xbf\xbe", -1},
	} {
		if got := Compare(c.a, c.b); got != c.want {
			t.Errorf("Compare(%q, %q) = %d, want %d", c.a, c.b, got, c.want)
		}
		if got := Compare(c.b, c.a); got != -c.want {
			t.Errorf("Compare(%q, %q) = %d, want %d", c.b, c.a, got, -c.want)
		}
	}
}

// Promises 2.8 and 2.11: the order is the one of the lists of units.
func TestCompareIsTheOrderOfUnits(t *testing.T) {
	parts := []string{"", "\x00", "a", "b", "\xff", "\xe2\x82", "\xc3\xa4", "\xed\x9f\xbf", "\xee\x80\x80", "\xef\xbf\xbd", "\xef\xbf\xbf",
		"\xf0\x90\x80\x80", "\xf0\x9f\x98\x80", "\xf0\x9f\x98\x81", "\xf4\x8f\xbf\xbf"}
	var all []string
	for _, a := range parts {
		for _, b := range parts {
			all = append(all, a+b)
		}
	}
	for _, a := range all {
		for _, b := range all {
			want := slices.CompareFunc(wantUnits(said(wantPieces(a))), wantUnits(said(wantPieces(b))), cmp.Compare)
			if got := Compare(a, b); got != want {
				t.Errorf("Compare(%q, %q) = %d, want %d", a, b, got, want)
			}
		}
	}
}

func wantEscape(s string) string {
	var b strings.Builder
	for _, r := range said(wantPieces(s)) {
		if r >= 32 && r <= 126 && r != 92 {
			b.WriteByte(byte(r))
			continue
		}
		for _, u := range wantUnits([]rune{r}) {
			digits := strconv.FormatUint(uint64(u), 16)
			b.WriteString("\\u" + strings.Repeat("0", 4-len(digits)) + digits)
		}
	}
	return b.String()
}

// Promises 2.9 and 2.11.
func TestEscape(t *testing.T) {
	for _, c := range []struct{ s, want string }{
		{"", ""}, {"a\xf0\x9f\x98\x80\\", "a\\ud83d\\ude00\\u005c"}, {" ~", " ~"}, {"\x1f\x7f", "\\u001f\\u007f"}, {"\x00\r\n\t\"'", "\\u0000\\u000d\\u000a\\u0009\"'"},
		{"\xc2\x80\xc3\xbf", "\\u0080\\u00ff"}, {"\xe2\x82", "\\ufffd"}, {"\xff\xff", "\\ufffd\\ufffd"}, {"\xef\xbf\xbf", "\\uffff"},
		{"\xf4\x8f\xbf\xbf", "\\udbff\\udfff"}, {"\xf0\x90\x80\x80", "\\ud800\\udc00"}, {"[]", "[]"},
	} {
		if got := Escape(c.s); got != c.want {
			t.Errorf("Escape(%q) = %q, want %q", c.s, got, c.want)
		}
	}
	someTexts(func(s string) {
		got := Escape(s)
		if got != wantEscape(s) {
			t.Errorf("Escape(%q) = %q, want %q", s, got, wantEscape(s))
		}
		for i := range len(got) {
			if got[i] >= 128 {
				t.Errorf("Escape(%q) = %q, which is not ASCII", s, got)
			}
		}
	})
}
