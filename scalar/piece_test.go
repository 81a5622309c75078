package scalar

import (
	"math"
	"slices"
	"strings"
	"testing"

	"postern/api"
)

// Promise 2.2, against the chapter's table.
func TestPiecesOfAllKinds(t *testing.T) {
	someTexts(func(s string) {
		want := wantPieces(s)
		if got := Pieces(s); !slices.Equal(got, want) {
			t.Errorf("Pieces(%q) = %v, want %v", s, got, want)
		}
		if got := Decode(s); !slices.Equal(got, said(want)) {
			t.Errorf("Decode(%q) = %v, want %v", s, got, said(want))
		}
		wrong := slices.IndexFunc(want, func(p api.Piece) bool { return p.Wrong })
		if wrong >= 0 {
			wrong = want[wrong].At
		}
		if got := Wrong(s); got != wrong {
			t.Errorf("Wrong(%q) = %d, want %d", s, got, wrong)
		}
	})
}

func TestDecode(t *testing.T) {
	const bad = 65533
	for _, c := range []struct {
		s    string
		want []rune
	}{
		{"", nil}, {"a\xe2\x82\xac", []rune{97, 8364}}, {"\xe2\x82A", []rune{bad, 65}}, {"\xf0\x80\x80", []rune{bad, bad, bad}},
		{"\xed\xa0\x80", []rune{bad, bad, bad}}, {"\xff", []rune{bad}}, {"\x00", []rune{0}},
		{"\xed\x9f\xbf\xee\x80\x80", []rune{55295, 57344}}, {"\xf4\x8f\xbf\xbf", []rune{1114111}},
		{"\xf4\x90\x80\x80", []rune{bad, bad, bad, bad}}, {"\xef\xbf\xbd", []rune{bad}},
		// Cut at the very end.
		{"\xc3", []rune{bad}}, {"\xe2", []rune{bad}}, {"\xe2\x82", []rune{bad}}, {"\xf0", []rune{bad}},
		{"\xf0\x9f", []rune{bad}}, {"\xf0\x9f\x98", []rune{bad}}, {"a\xf4\x8f\xbf", []rune{97, bad}},
		// Written longer than it may be.
		{"\xc0\x80", []rune{bad, bad}}, {"\xc1\xbf", []rune{bad, bad}}, {"\xe0\x80\x80", []rune{bad, bad, bad}},
		{"\xe0\x9f\xbf", []rune{bad, bad, bad}}, {"\xf0\x8f\xbf\xbf", []rune{bad, bad, bad, bad}},
		{"\xf8\x88\x80\x80\x80", []rune{bad, bad, bad, bad, bad}},
		// A beginning that another sequence breaks off.
		{"\xf0\x9f\x98\xe2\x82\xac", []rune{bad, 8364}}, {"\xf0\x9f\xf0\x9f\x98\x80", []rune{bad, 128512}},
		{"\xe2\xe2\x82\xac", []rune{bad, 8364}}, {"\xac\xe2\x82\xac\xac", []rune{bad, 8364, bad}},
	} {
		if got := Decode(c.s); !slices.Equal(got, c.want) {
			t.Errorf("Decode(%q) = %v, want %v", c.s, got, c.want)
		}
	}
}

// Each kind of first byte with the least and the greatest second byte, and one beyond each.
func TestSecondBytes(t *testing.T) {
	for first := range 256 {
		least, greatest, size := 128, 191, 3
		switch {
		case first < 194 || first > 244:
			continue
		case first < 224:
			size = 2
		case first == 224:
			least = 160
		case first == 237:
			greatest = 159
		case first >= 240:
			size = 4
			if first == 240 {
				least = 144
			}
			if first == 244 {
				greatest = 143
			}
		}
		rest := strings.Repeat("\x80", size-2)
		for _, c := range []struct {
			second int
			whole  bool
		}{{least, true}, {greatest, true}, {least - 1, false}, {greatest + 1, false}} {
			s := string([]byte{byte(first), byte(c.second)}) + rest
			want := api.Piece{Size: 1, Rune: 65533, Wrong: true}
			if c.whole {
				want = api.Piece{Size: size, Rune: value(s)}
			}
			if got, e := At(s, 0); got != want || e != api.OK {
				t.Errorf("At(%q, 0) = %v, %d, want %v", s, got, e, want)
			}
			// Without its last byte it is wrong, as long as it is.
			if got, _ := At(s[:size-1], 0); c.whole && (got != api.Piece{Size: size - 1, Rune: 65533, Wrong: true}) {
				t.Errorf("At(%q, 0) = %v, want a wrong piece of %d bytes", s[:size-1], got, size-1)
			}
		}
	}
}

func TestAtEachPlace(t *testing.T) {
	for _, s := range mixedTexts() {
		for at := -3; at <= len(s)+3; at++ {
			got, e := At(s, at)
			if at < 0 || at >= len(s) {
				if got != (api.Piece{}) || e != api.ErrPlace {
					t.Errorf("At(%q, %d) = %v, %d, want nothing and ErrPlace", s, at, got, e)
				}
				continue
			}
			want := wantPiece(s[at:])
			want.At = at
			if got != want || e != api.OK {
				t.Errorf("At(%q, %d) = %v, %d, want %v", s, at, got, e, want)
			}
		}
	}
}

func TestAt(t *testing.T) {
	for _, c := range []struct {
		s    string
		at   int
		want api.Piece
		e    api.Errno
	}{
		{"a\xe2\x82", 1, api.Piece{At: 1, Size: 2, Rune: 65533, Wrong: true}, api.OK},
		{"a\xe2\x82\xac", 1, api.Piece{At: 1, Size: 3, Rune: 8364}, api.OK},
		{"a\xe2\x82\xac", 2, api.Piece{At: 2, Size: 1, Rune: 65533, Wrong: true}, api.OK},
		{"a\xef\xbf\xbd", 1, api.Piece{At: 1, Size: 3, Rune: 65533}, api.OK},
		{"", 0, api.Piece{}, api.ErrPlace}, {"", -1, api.Piece{}, api.ErrPlace}, {"a", 1, api.Piece{}, api.ErrPlace},
		{"a", math.MinInt, api.Piece{}, api.ErrPlace}, {"a", math.MaxInt, api.Piece{}, api.ErrPlace},
	} {
		if got, e := At(c.s, c.at); got != c.want || e != c.e {
			t.Errorf("At(%q, %d) = %v, %d, want %v, %d", c.s, c.at, got, e, c.want, c.e)
		}
	}
}

func TestWrong(t *testing.T) {
	for _, c := range []struct {
		s    string
		want int
	}{
		{"", -1}, {"ab", -1}, {"ab\xff", 2}, {"\xff\xff", 0}, {"\xe2\x82\xac\xe2\x82", 3}, {"\xef\xbf\xbd", -1},
		{"\xef\xbf\xbd\x80", 3}, {"\xed\xa0\x80", 0}, {"a\xf4\x90", 1},
	} {
		if got := Wrong(c.s); got != c.want {
			t.Errorf("Wrong(%q) = %d, want %d", c.s, got, c.want)
		}
	}
}

// Promises 2.3 and 2.6.
func TestClean(t *testing.T) {
	for _, c := range []struct{ s, want string }{
		{"", ""}, {"a\xe2\x82\xac", "a\xe2\x82\xac"}, {"\xe2\x82A", "\xef\xbf\xbdA"}, {"a\xf0\x9f\x98", "a\xef\xbf\xbd"},
		{"\xc0\x80", "\xef\xbf\xbd\xef\xbf\xbd"}, {"\xef\xbf\xbd", "\xef\xbf\xbd"},
	} {
		if got := Clean(c.s); got != c.want {
			t.Errorf("Clean(%q) = %q, want %q", c.s, got, c.want)
		}
	}
	someTexts(func(s string) {
		var want strings.Builder
		for _, r := range said(wantPieces(s)) {
			want.WriteString(wantEncoded(r))
		}
		got := Clean(s)
		if got != want.String() {
			t.Errorf("Clean(%q) = %q, want %q", s, got, want.String())
		}
		if Wrong(s) < 0 && got != s {
			t.Errorf("Clean(%q) = %q, though nothing is wrong", s, got)
		}
		if again := Clean(got); again != got {
			t.Errorf("Clean(%q) = %q, though it is clean", got, again)
		}
	})
}

func TestCut(t *testing.T) {
	for _, c := range []struct {
		s    string
		most int
		want string
	}{
		{"a\xe2\x82\xacb", 3, "a"}, {"a\xe2\x82\xacb", 4, "a\xe2\x82\xac"}, {"a\xe2\x82\xacb", 0, ""}, {"a\xe2\x82\xacb", 1, "a"},
		{"a\xe2\x82\xacb", 5, "a\xe2\x82\xacb"}, {"a\xe2\x82\xacb", 6, "a\xe2\x82\xacb"}, {"a", -1, ""}, {"", 0, ""}, {"", 5, ""}, {"", -5, ""},
		{"\xe2\x82", 1, ""}, {"\xe2\x82", 2, "\xe2\x82"}, {"\xe2\x82A", 1, ""}, {"\xc0\x80", 1, "\xc0"},
		{"a", math.MinInt, ""}, {"a", math.MaxInt, "a"},
	} {
		if got := Cut(c.s, c.most); got != c.want {
			t.Errorf("Cut(%q, %d) = %q, want %q", c.s, c.most, got, c.want)
		}
	}
	for _, s := range mixedTexts() {
		for most := -2; most <= len(s)+2; most++ {
			end := 0
			for _, p := range wantPieces(s) {
				if p.At+p.Size <= most {
					end = p.At + p.Size
				}
			}
			if got := Cut(s, most); got != s[:end] {
				t.Errorf("Cut(%q, %d) = %q, want %q", s, most, got, s[:end])
			}
		}
	}
}

// Promise 2.6, of pieces and of what they say.
func TestPiecesLieBehindOneAnother(t *testing.T) {
	someTexts(func(s string) {
		at := 0
		for _, p := range Pieces(s) {
			most := 4
			if p.Wrong {
				most = 3
			}
			if p.At != at || p.Size < 1 || p.Size > most || !Scalar(p.Rune) || p.Wrong && p.Rune != 65533 {
				t.Errorf("%q has the piece %v at %d", s, p, at)
			}
			at += p.Size
		}
		if at != len(s) {
			t.Errorf("the pieces of %q end at %d", s, at)
		}
		told := Decode(s)
		text, _, e := Encode(told)
		if again := Decode(text); e != api.OK || !slices.Equal(again, told) {
			t.Errorf("Decode(Encode(%v)) = %v, error %d", told, again, e)
		}
	})
}
