package scalar

import (
	"slices"
	"testing"
)

// fed feeds a new Decoder in pieces, ends it, and answers all that it told.
func fed(d *Decoder, pieces []string) []rune {
	var told []rune
	for _, piece := range pieces {
		told = append(told, d.Feed(piece)...)
	}
	return append(told, d.End()...)
}

// checkFed feeds one text in pieces, and holds what is told and held back after each of them against the text so far.
func checkFed(t *testing.T, pieces []string) {
	t.Helper()
	d := NewDecoder()
	text := ""
	var told []rune
	for _, piece := range pieces {
		text += piece
		told = append(told, d.Feed(piece)...)
		held := text[len(text)-wantHeld(text):]
		sure := said(wantPieces(text[:len(text)-len(held)]))
		if d.Held() != held || !slices.Equal(told, sure) {
			t.Errorf("%q: told %v and holds %q, want %v and %q", pieces, told, d.Held(), sure, held)
		}
	}
	told = append(told, d.End()...)
	if want := said(wantPieces(text)); !slices.Equal(told, want) || d.Held() != "" {
		t.Errorf("%q: told %v in all and holds %q, want %v", pieces, told, d.Held(), want)
	}
}

// Promises 2.5 and 2.6.
func TestDecoderHoweverCut(t *testing.T) {
	for _, s := range []string{
		"", "a", "a\xe2\x82\xacb", "\xe2\x82A", "\xf0\x9f\x98\x80", "\xf0\x9f\x98\xf0\x9f\x98\x80", "\xf0\x80\x80\x80", "\xed\xa0\x80\xed\x9f",
		"\xf4\x90\x80\xf4\x8f\xbf", "\xc3\xc3\xa4\xc3", "\xff\xfe\xe0\xa0", "\xe0\x9f\xe0\xa0\x80", "\xef\xbf\xbd\xef\xbf", "\x80\xf1\x80\x80",
		"\xc0\x80\xc1\xf5", "\r\n\xf0\x90\x80\x80\xdf\xbf", "x\xe1\x80\xe1\x80\x80\xe1",
	} {
		cuts(s, func(pieces []string) { checkFed(t, pieces) })
	}
}

func TestDecoderByteByByte(t *testing.T) {
	someTexts(func(s string) {
		var pieces []string
		for i := range len(s) {
			pieces = append(pieces, s[i:i+1])
		}
		checkFed(t, pieces)
	})
}

func TestDecoderWithEmptyPieces(t *testing.T) {
	checkFed(t, []string{"", "\xe2", "", "\x82", "", "", "\xac", ""})
	checkFed(t, []string{"", "", ""})
	checkFed(t, []string{"\xf0\x9f", "", "\x98\x80\xf0", ""})
}

func TestDecoderStepByStep(t *testing.T) {
	d := NewDecoder()
	for _, c := range []struct {
		feed string
		want []rune
		held string
	}{
		{"\xe2\x82", nil, "\xe2\x82"}, {"A", []rune{65533, 65}, ""}, {"\xf0", nil, "\xf0"}, {"\x9f", nil, "\xf0\x9f"},
		{"\x98", nil, "\xf0\x9f\x98"}, {"", nil, "\xf0\x9f\x98"}, {"\x80b\xc3", []rune{128512, 98}, "\xc3"}, {"\xff", []rune{65533, 65533}, ""},
		{"\xc0", []rune{65533}, ""}, {"\x80", []rune{65533}, ""}, {"\xed", nil, "\xed"}, {"\xa0", []rune{65533, 65533}, ""}, {"\xf0", nil, "\xf0"},
	} {
		if got := d.Feed(c.feed); !slices.Equal(got, c.want) || d.Held() != c.held {
			t.Errorf("Feed(%q) = %v and holds %q, want %v and %q", c.feed, got, d.Held(), c.want, c.held)
		}
	}
	if got := d.End(); !slices.Equal(got, []rune{65533}) || d.Held() != "" {
		t.Errorf("End() = %v and holds %q, want 65533 and nothing", got, d.Held())
	}
}

// After its end a Decoder is as new.
func TestDecoderAfterItsEnd(t *testing.T) {
	d := NewDecoder()
	if got := d.End(); len(got) != 0 {
		t.Errorf("End() of a new one = %v", got)
	}
	for _, s := range mixedTexts() {
		if got := fed(d, []string{s}); !slices.Equal(got, said(wantPieces(s))) {
			t.Errorf("%q: told %v", s, got)
		}
		if got := d.End(); len(got) != 0 || d.Held() != "" {
			t.Errorf("%q: a second End() = %v and holds %q", s, got, d.Held())
		}
	}
	d.Feed("\xe2\x82")
	d.End()
	if got := d.Feed("\xac"); !slices.Equal(got, []rune{65533}) {
		t.Errorf("Feed behind an end = %v, want 65533", got)
	}
}

func TestDecodersAreApart(t *testing.T) {
	a, b := NewDecoder(), NewDecoder()
	a.Feed("\xe2\x82")
	if b.Held() != "" {
		t.Errorf("the other one holds %q", b.Held())
	}
	if got := b.Feed("\xac"); !slices.Equal(got, []rune{65533}) {
		t.Errorf("the other one told %v", got)
	}
	if got := a.Feed("\xac"); !slices.Equal(got, []rune{8364}) {
		t.Errorf("the one told %v", got)
	}
}

func TestNilDecoder(t *testing.T) {
	var d *Decoder
	for _, s := range []string{"", "a", "\xe2\x82", "\xff"} {
		if got := d.Feed(s); len(got) != 0 {
			t.Errorf("Feed(%q) = %v", s, got)
		}
		if got := d.End(); len(got) != 0 || d.Held() != "" {
			t.Errorf("End() = %v, Held() = %q", got, d.Held())
		}
	}
}

// Rule R4.
func TestWhatADecoderToldMayBeChanged(t *testing.T) {
	d := NewDecoder()
	for range 3 {
		told := d.Feed("ab\xe2\x82")
		if !slices.Equal(told, []rune{97, 98}) {
			t.Errorf("told %v", told)
		}
		spoil(told, 1)
		told = d.Feed("\xacz\xf0")
		if !slices.Equal(told, []rune{8364, 122}) {
			t.Errorf("told %v", told)
		}
		spoil(told, 1)
		end := d.End()
		if !slices.Equal(end, []rune{65533}) {
			t.Errorf("told %v at the end", end)
		}
		spoil(end, 1)
	}
}
