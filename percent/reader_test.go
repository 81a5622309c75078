package percent

import (
	"slices"
	"strings"
	"testing"

	"postern/api"
)

// checkRead feeds one form in pieces to a Reader that is as new, and holds the fields after each of them against the form so far.
func checkRead(t *testing.T, r *Reader, pieces []string) {
	t.Helper()
	form := ""
	var told []api.Field
	for _, piece := range pieces {
		form += piece
		told = append(told, r.Feed(piece)...)
		whole := wantFields(form[:strings.LastIndexByte(form, '&')+1])
		if !slices.Equal(told, whole) {
			t.Errorf("%q: told %q, want %q", pieces, told, whole)
		}
	}
	last := wantFields(form[strings.LastIndexByte(form, '&')+1:])
	end := r.End()
	if !slices.Equal(end, last) {
		t.Errorf("%q: End() = %q, want %q", pieces, end, last)
	}
	if told = append(told, end...); !slices.Equal(told, wantFields(form)) {
		t.Errorf("%q: told %q in all, want %q", pieces, told, wantFields(form))
	}
}

// Promises 3.8 and 3.9.
func TestReaderHoweverCut(t *testing.T) {
	for length := range 7 {
		texts(length, "&=a", func(s string) {
			cuts(s, func(pieces []string) { checkRead(t, NewReader(), pieces) })
		})
	}
	for _, s := range []string{"a=1&&b&c==%41+", "%26=%3d&%4&1", "%e2%82&%ac=", "\xe2\x82\xac&=\xe2\x82&\xac", "&&a=+&&", "=&=&a=a=&"} {
		cuts(s, func(pieces []string) { checkRead(t, NewReader(), pieces) })
	}
}

func TestReaderByteByByte(t *testing.T) {
	r := NewReader()
	for _, s := range someForms() {
		checkRead(t, r, singles(s))
		checkRead(t, r, []string{s})
	}
}

func TestReaderWithEmptyPieces(t *testing.T) {
	checkRead(t, NewReader(), []string{"", "a", "", "=", "", "1", "", "&", "", "b", ""})
	checkRead(t, NewReader(), []string{"", ""})
}

func TestReaderStepByStep(t *testing.T) {
	r := NewReader()
	for _, c := range []struct {
		feed string
		want []api.Field
	}{
		{"a", nil}, {"=1", nil}, {"&", pairs("a", "1")}, {"&", nil}, {"b&c", pairs("b", "")}, {"==%4", nil},
		{"1+&d=%", pairs("c", "=A ")}, {"", nil}, {"26&=&&x=1&%e2", pairs("d", "&", "", "", "x", "1")}, {"%82", nil},
	} {
		if got := r.Feed(c.feed); !slices.Equal(got, c.want) {
			t.Errorf("Feed(%q) = %q, want %q", c.feed, got, c.want)
		}
	}
	if got := r.End(); !slices.Equal(got, pairs("\xef\xbf\xbd", "")) {
		t.Errorf("End() = %q, want one U+FFFD", got)
	}
}

// After its end a Reader is as new.
func TestReaderAfterItsEnd(t *testing.T) {
	r := NewReader()
	if got := r.End(); len(got) != 0 {
		t.Errorf("a new one: End() = %q", got)
	}
	r.Feed("a=1&b=2")
	if got := r.End(); !slices.Equal(got, pairs("b", "2")) {
		t.Errorf("End() = %q, want b and 2", got)
	}
	if got := r.End(); len(got) != 0 {
		t.Errorf("a second End() = %q", got)
	}
	if got := r.Feed("3&c"); !slices.Equal(got, pairs("3", "")) {
		t.Errorf("Feed behind an end = %q, want 3 alone", got)
	}
	if got := r.Feed("&"); !slices.Equal(got, pairs("c", "")) {
		t.Errorf("Feed = %q, want c alone", got)
	}
	if got := r.End(); len(got) != 0 {
		t.Errorf("End() behind an & = %q", got)
	}
}

func TestReadersAreApart(t *testing.T) {
	a, b := NewReader(), NewReader()
	a.Feed("a=1")
	if got := b.Feed("2&"); !slices.Equal(got, pairs("2", "")) {
		t.Errorf("the other one told %q", got)
	}
	if got := a.Feed("2&"); !slices.Equal(got, pairs("a", "12")) {
		t.Errorf("the one told %q", got)
	}
}

func TestNilReader(t *testing.T) {
	var r *Reader
	for _, s := range []string{"", "a=1", "a=1&b=2", "&", "="} {
		if got := r.Feed(s); len(got) != 0 {
			t.Errorf("Feed(%q) = %q", s, got)
		}
		if got := r.End(); len(got) != 0 {
			t.Errorf("End() = %q", got)
		}
	}
}

// Rule R4.
func TestWhatAReaderToldMayBeChanged(t *testing.T) {
	spoiled := api.Field{Name: "spoiled", Value: "spoiled"}
	r := NewReader()
	for range 3 {
		told := r.Feed("a=1&b=2&c=")
		if !slices.Equal(told, pairs("a", "1", "b", "2")) {
			t.Errorf("told %q", told)
		}
		spoil(told, spoiled)
		told = r.Feed("3&d")
		if !slices.Equal(told, pairs("c", "3")) {
			t.Errorf("told %q", told)
		}
		spoil(told, spoiled)
		end := r.End()
		if !slices.Equal(end, pairs("d", "")) {
			t.Errorf("told %q at the end", end)
		}
		spoil(end, spoiled)
	}
}

// Rule R1, of a long field in short pieces: it should take no longer for each piece the more of them came ahead.
func TestReaderOfALongField(t *testing.T) {
	const n = 1 << 20
	r := NewReader()
	r.Feed("a=")
	for range n {
		r.Feed("1")
	}
	if got := r.End(); !slices.Equal(got, pairs("a", strings.Repeat("1", n))) {
		t.Errorf("%d fields, want one of %d bytes", len(got), n)
	}
}
