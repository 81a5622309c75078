package scalar

import (
	"math"
	"slices"
	"testing"

	"postern/api"
)

// A line end is the bytes from its first to the one behind its last.
type lineEnd struct{ from, to int }

// wantEnds is the line ends of a text.
func wantEnds(s string) []lineEnd {
	var l []lineEnd
	for at := 0; at < len(s); at++ {
		switch {
		case s[at] == 10:
			l = append(l, lineEnd{at, at + 1})
		case s[at] == 13 && at+1 < len(s) && s[at+1] == 10:
			l = append(l, lineEnd{at, at + 2})
			at++
		case s[at] == 13:
			l = append(l, lineEnd{at, at + 1})
		}
	}
	return l
}

func wantLines(s string) []string {
	var l []string
	from := 0
	for _, end := range wantEnds(s) {
		l = append(l, s[from:end.from])
		from = end.to
	}
	return append(l, s[from:])
}

func wantPosition(s string, at int) api.Position {
	where := api.Position{}
	start := 0
	for _, end := range wantEnds(s) {
		if end.to <= at {
			where.Line++
			start = end.to
		}
	}
	var ahead []rune
	for _, p := range wantPieces(s) {
		if p.At >= at {
			continue
		}
		ahead = append(ahead, p.Rune)
		if p.At >= start {
			where.Column++
		}
	}
	where.Point = len(ahead)
	where.Unit = len(wantUnits(ahead))
	return where
}

// Promise 2.7.
func TestLines(t *testing.T) {
	for _, c := range []struct {
		s    string
		want []string
	}{
		{"", []string{""}}, {"a", []string{"a"}}, {"a\rb\r\n", []string{"a", "b", ""}}, {"\n", []string{"", ""}}, {"\r", []string{"", ""}},
		{"\r\n", []string{"", ""}}, {"\n\r", []string{"", "", ""}}, {"\r\r\n", []string{"", "", ""}}, {"\r\n\n", []string{"", "", ""}},
		{"\r\n\r", []string{"", "", ""}}, {"a\r", []string{"a", ""}}, {"a\rb", []string{"a", "b"}}, {"a\r\nb\nc", []string{"a", "b", "c"}},
		// No other byte ends a line, and wrong bytes stay as they are.
		{"a\vb\fc\xc2\x85\xe2\x80\xa8", []string{"a\vb\fc\xc2\x85\xe2\x80\xa8"}}, {"\xff\n\xe2\x82\r\xac", []string{"\xff", "\xe2\x82", "\xac"}},
	} {
		if got := Lines(c.s); !slices.Equal(got, c.want) {
			t.Errorf("Lines(%q) = %q, want %q", c.s, got, c.want)
		}
	}
	someTexts(func(s string) {
		if got, want := Lines(s), wantLines(s); !slices.Equal(got, want) {
			t.Errorf("Lines(%q) = %q, want %q", s, got, want)
		}
	})
}

func TestPosition(t *testing.T) {
	for _, c := range []struct {
		s                         string
		at                        int
		line, column, point, unit int
	}{
		{"", 0, 0, 0, 0, 0}, {"a\r\n\xc3\xa4b", 6, 1, 2, 5, 5},
		// A 13 and 10 has ended only behind the 10.
		{"a\r\nb", 1, 0, 1, 1, 1}, {"a\r\nb", 2, 0, 2, 2, 2}, {"a\r\nb", 3, 1, 0, 3, 3}, {"a\r\nb", 4, 1, 1, 4, 4},
		// A 13 alone, also at the end of all, has ended behind itself.
		{"a\rb", 1, 0, 1, 1, 1}, {"a\rb", 2, 1, 0, 2, 2}, {"a\r", 1, 0, 1, 1, 1}, {"a\r", 2, 1, 0, 2, 2}, {"\r\r\n", 1, 1, 0, 1, 1},
		{"\r\r\n", 2, 1, 1, 2, 2}, {"\r\r\n", 3, 2, 0, 3, 3}, {"\n\r", 1, 1, 0, 1, 1}, {"\n\r", 2, 2, 0, 2, 2},
		// Within a piece: it has begun, with all its units.
		{"\xf0\x9f\x98\x80b", 0, 0, 0, 0, 0}, {"\xf0\x9f\x98\x80b", 1, 0, 1, 1, 2}, {"\xf0\x9f\x98\x80b", 3, 0, 1, 1, 2}, {"\xf0\x9f\x98\x80b", 4, 0, 1, 1, 2},
		{"\xf0\x9f\x98\x80b", 5, 0, 2, 2, 3}, {"\xf0\x9f\x98b", 2, 0, 1, 1, 1}, {"\xff\xff", 2, 0, 2, 2, 2},
	} {
		want := api.Position{Line: c.line, Column: c.column, Point: c.point, Unit: c.unit}
		if got, e := Position(c.s, c.at); got != want || e != api.OK {
			t.Errorf("Position(%q, %d) = %v, %d, want %v", c.s, c.at, got, e, want)
		}
	}
}

func TestPositionOfEachPlace(t *testing.T) {
	someTexts(func(s string) {
		for at := range len(s) + 1 {
			if got, e := Position(s, at); got != wantPosition(s, at) || e != api.OK {
				t.Errorf("Position(%q, %d) = %v, %d, want %v", s, at, got, e, wantPosition(s, at))
			}
		}
	})
}

func TestPositionOfNoPlace(t *testing.T) {
	for _, s := range mixedTexts() {
		for _, at := range []int{math.MinInt, -2, -1, len(s) + 1, len(s) + 2, math.MaxInt} {
			if got, e := Position(s, at); got != (api.Position{}) || e != api.ErrPlace {
				t.Errorf("Position(%q, %d) = %v, %d, want nothing and ErrPlace", s, at, got, e)
			}
		}
	}
}

// Promise 2.8.
func TestUnit(t *testing.T) {
	for _, c := range []struct {
		s        string
		unit, at int
		e        api.Errno
	}{
		{"", 0, 0, api.OK}, {"", 1, 0, api.ErrPlace}, {"", -1, 0, api.ErrPlace},
		{"a\xf0\x9f\x98\x80b", 0, 0, api.OK}, {"a\xf0\x9f\x98\x80b", 1, 1, api.OK}, {"a\xf0\x9f\x98\x80b", 2, 1, api.OK},
		{"a\xf0\x9f\x98\x80b", 3, 5, api.OK}, {"a\xf0\x9f\x98\x80b", 4, 6, api.OK}, {"a\xf0\x9f\x98\x80b", 5, 0, api.ErrPlace},
		{"\xf0\x9f\x98\x80", 1, 0, api.OK}, {"\xf0\x9f\x98\x80", 2, 4, api.OK}, {"\xf0\x9f\x98\x80", 3, 0, api.ErrPlace},
		{"\xe2\x82\xff\xe2\x82\xac", 1, 2, api.OK}, {"\xe2\x82\xff\xe2\x82\xac", 2, 3, api.OK}, {"\xe2\x82\xff\xe2\x82\xac", 3, 6, api.OK},
		{"abc", math.MinInt, 0, api.ErrPlace}, {"abc", math.MaxInt, 0, api.ErrPlace},
	} {
		if at, e := Unit(c.s, c.unit); at != c.at || e != c.e {
			t.Errorf("Unit(%q, %d) = %d, %d, want %d, %d", c.s, c.unit, at, e, c.at, c.e)
		}
	}
}

// Promises 2.8 and 2.11: the units of all pieces, and the places of those places.
func TestUnitOfEachPiece(t *testing.T) {
	someTexts(func(s string) {
		pieces := wantPieces(s)
		unit := 0
		for _, p := range pieces {
			for range wantUnits([]rune{p.Rune}) {
				if at, e := Unit(s, unit); at != p.At || e != api.OK {
					t.Errorf("Unit(%q, %d) = %d, %d, want %d", s, unit, at, e, p.At)
				}
				unit++
			}
			where, _ := Position(s, p.At)
			if at, e := Unit(s, where.Unit); at != p.At || e != api.OK {
				t.Errorf("Unit of the Unit of %d of %q = %d, %d", p.At, s, at, e)
			}
		}
		if at, e := Unit(s, unit); at != len(s) || e != api.OK {
			t.Errorf("Unit(%q, %d) = %d, %d, want the end", s, unit, at, e)
		}
		if at, e := Unit(s, unit+1); at != 0 || e != api.ErrPlace {
			t.Errorf("Unit(%q, %d) = %d, %d, want 0 and ErrPlace", s, unit+1, at, e)
		}
		if n, m := Count(s); n != len(pieces) || m != unit {
			t.Errorf("Count(%q) = %d, %d, want %d, %d", s, n, m, len(pieces), unit)
		}
	})
}

func TestCount(t *testing.T) {
	for _, c := range []struct {
		s             string
		pieces, units int
	}{
		{"", 0, 0}, {"abc", 3, 3}, {"a\xf0\x9f\x98\x80b", 3, 4}, {"\xf0\x9f\x98", 1, 1}, {"\xf0\x80\x80", 3, 3}, {"\xef\xbf\xbf\xf0\x90\x80\x80", 2, 3},
		{"a\r\nb", 4, 4},
	} {
		if n, m := Count(c.s); n != c.pieces || m != c.units {
			t.Errorf("Count(%q) = %d, %d, want %d, %d", c.s, n, m, c.pieces, c.units)
		}
	}
}
