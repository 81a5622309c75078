package scalar

import (
	"math"
	"slices"
	"testing"

	"postern/api"
)

func wantScalar(r rune) bool { return 0 <= r && r <= 1114111 && (r < 55296 || r > 57343) }

func wantWidth(r rune) int {
	switch {
	case !wantScalar(r):
		return 0
	case r < 128:
		return 1
	case r < 2048:
		return 2
	case r < 65536:
		return 3
	}
	return 4
}

// wantEncoded is UTF-8 of one scalar value, bit by bit.
func wantEncoded(r rune) string {
	low := func(shift int) byte { return byte(128 | r>>shift&63) }
	switch wantWidth(r) {
	case 1:
		return string([]byte{byte(r)})
	case 2:
		return string([]byte{byte(192 | r>>6), low(0)})
	case 3:
		return string([]byte{byte(224 | r>>12), low(6), low(0)})
	}
	return string([]byte{byte(240 | r>>18), low(12), low(6), low(0)})
}

// notScalars are numbers that are no scalar values.
func notScalars() []rune {
	return []rune{math.MinInt32, -65536, -2, -1, 55296, 55297, 56319, 56320, 57343, 1114112, 1114113, math.MaxInt32}
}

// Promise 2.1.
func TestScalarAndWidth(t *testing.T) {
	for r := rune(-300); r <= 1114111+300; r++ {
		if got, want := Scalar(r), wantScalar(r); got != want {
			t.Errorf("Scalar(%d) = %v, want %v", r, got, want)
		}
		if got, want := Width(r), wantWidth(r); got != want {
			t.Errorf("Width(%d) = %d, want %d", r, got, want)
		}
	}
}

func TestScalarAndWidthEdges(t *testing.T) {
	for _, c := range []struct {
		r     rune
		width int
	}{
		{0, 1}, {97, 1}, {127, 1}, {128, 2}, {2047, 2}, {2048, 3}, {8364, 3}, {55295, 3}, {57344, 3}, {65533, 3}, {65535, 3},
		{65536, 4}, {128512, 4}, {1114111, 4},
	} {
		if !Scalar(c.r) || Width(c.r) != c.width {
			t.Errorf("%d: Scalar %v, Width %d, want true, %d", c.r, Scalar(c.r), Width(c.r), c.width)
		}
	}
	for _, r := range notScalars() {
		if Scalar(r) || Width(r) != 0 {
			t.Errorf("%d: Scalar %v, Width %d, want false, 0", r, Scalar(r), Width(r))
		}
	}
}

// Promises 2.3 and 2.6, of each scalar value.
func TestEncodeEachScalar(t *testing.T) {
	for r := rune(0); r <= 1114111; r++ {
		if !wantScalar(r) {
			continue
		}
		s, at, e := Encode([]rune{r})
		if s != wantEncoded(r) || at != 0 || e != api.OK {
			t.Errorf("Encode(%d) = %q, %d, %d, want %q", r, s, at, e, wantEncoded(r))
		}
		if back := Decode(s); !slices.Equal(back, []rune{r}) {
			t.Errorf("Decode(%q) = %v, want %d", s, back, r)
		}
	}
}

func TestEncode(t *testing.T) {
	for _, c := range []struct {
		l    []rune
		want string
	}{
		{nil, ""}, {[]rune{}, ""}, {[]rune{0}, "\x00"}, {[]rune{97, 8364}, "a\xe2\x82\xac"},
		{[]rune{127, 128, 2047, 2048, 55295, 57344, 65535, 65536, 1114111},
			"\x7f\xc2\x80\xdf\xbf\xe0\xa0\x80\xed\x9f\xbf\xee\x80\x80\xef\xbf\xbf\xf0\x90\x80\x80\xf4\x8f\xbf\xbf"},
		{[]rune{65533, 65533}, "\xef\xbf\xbd\xef\xbf\xbd"},
	} {
		if s, at, e := Encode(c.l); s != c.want || at != 0 || e != api.OK {
			t.Errorf("Encode(%v) = %q, %d, %d, want %q", c.l, s, at, e, c.want)
		}
	}
}

// Promises 2.3 and 2.4: the first one that is no scalar value is told, and nothing else.
func TestEncodeAndUnitsOfWrongLists(t *testing.T) {
	for _, r := range notScalars() {
		for _, c := range []struct {
			l  []rune
			at int
		}{
			{[]rune{r}, 0}, {[]rune{r, 97}, 0}, {[]rune{97, r}, 1}, {[]rune{97, 128512, r, 98, r}, 2}, {[]rune{r, r}, 0},
			{[]rune{65533, 0, 1114111, r}, 3}, {[]rune{97, r, -1, 55296}, 1},
		} {
			if s, at, e := Encode(c.l); s != "" || at != c.at || e != api.ErrScalar {
				t.Errorf("Encode(%v) = %q, %d, %d, want nothing, %d, ErrScalar", c.l, s, at, e, c.at)
			}
			if u, at, e := Units(c.l); len(u) != 0 || at != c.at || e != api.ErrScalar {
				t.Errorf("Units(%v) = %v, %d, %d, want nothing, %d, ErrScalar", c.l, u, at, e, c.at)
			}
		}
	}
}

// Rule R4: lists that are handed in stay as they are, with what lies behind them.
func TestListsHandedInStay(t *testing.T) {
	for _, l := range [][]rune{{}, {97, 8364, 128512}, {97, 55296, 98}} {
		made := withSpare(l, 77)
		Encode(made)
		Units(made)
		if !sparesKept(l, made, 77) {
			t.Errorf("%v was changed into %v", l, made[:len(made)+3])
		}
	}
	for _, l := range [][]uint16{{}, {97, 55357, 56832}, {56832, 55357}} {
		made := withSpare(l, 77)
		FromUnits(made)
		NewUnitDecoder().Feed(made)
		if !sparesKept(l, made, 77) {
			t.Errorf("%v was changed into %v", l, made[:len(made)+3])
		}
	}
}

// Rule R4: a caller may do to an answer, and to the room behind it, what it likes.
func TestListsHandedOutAreNew(t *testing.T) {
	const s = "a\xe2\x82\xac\r\n\xf0\x9f\x98\x80\xff"
	runes := []rune{97, 8364, 13, 10, 128512, 65533}
	units := wantUnits(runes)
	for range 2 {
		pieces, told, lines := Pieces(s), Decode(s), Lines(s)
		out, _, _ := Units(runes)
		back := FromUnits(units)
		if !slices.Equal(pieces, wantPieces(s)) || !slices.Equal(told, runes) || !slices.Equal(out, units) ||
			!slices.Equal(back, runes) || !slices.Equal(lines, []string{"a\xe2\x82\xac", "\xf0\x9f\x98\x80\xff"}) {
			t.Errorf("answers that were changed: %v, %v, %q, %v, %v", pieces, told, lines, out, back)
		}
		spoil(pieces, api.Piece{})
		spoil(told, 1)
		spoil(lines, "x")
		spoil(out, 1)
		spoil(back, 1)
	}
	if !slices.Equal(units, wantUnits(runes)) || !slices.Equal(runes, []rune{97, 8364, 13, 10, 128512, 65533}) {
		t.Error("a list that was handed in was changed through an answer")
	}
}
