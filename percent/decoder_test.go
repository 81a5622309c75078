package percent

import (
	"regexp"
	"strings"
	"testing"
)

// heldPattern is the chapter's word for what is held.
var heldPattern = regexp.MustCompile(`%[0-9A-Fa-f]?\z`)

func wantHeld(s string) string { return heldPattern.FindString(s) }

// checkFed feeds one text in pieces to a Decoder that is as new, and holds what came out and is held after each of them against the text so far.
func checkFed(t *testing.T, d *Decoder, pieces []string) {
	t.Helper()
	text, out := "", ""
	for _, piece := range pieces {
		text += piece
		out += d.Feed(piece)
		held := wantHeld(text)
		sure := strings.TrimSuffix(wantDecode(text), held)
		if d.Held() != held || out != sure {
			t.Errorf("%q: %q came out and %q is held, want %q and %q", pieces, out, d.Held(), sure, held)
		}
	}
	if end, held := d.End(), wantHeld(text); end != held || d.Held() != "" {
		t.Errorf("%q: End() = %q and holds %q, want %q and nothing", pieces, end, d.Held(), held)
	} else if out+end != wantDecode(text) {
		t.Errorf("%q: %q came out in all, want %q", pieces, out+end, wantDecode(text))
	}
}

// Promises 3.4 and 3.5.
func TestDecoderHoweverCut(t *testing.T) {
	for length := range 7 {
		texts(length, "%4Fg", func(s string) {
			cuts(s, func(pieces []string) { checkFed(t, NewDecoder(), pieces) })
		})
	}
	for _, s := range []string{"%41%4g%", "a%2541%%4%", "%%%%41%%%4", "\xff%fF%f\xff%ff", "%25%34%31+%"} {
		cuts(s, func(pieces []string) { checkFed(t, NewDecoder(), pieces) })
	}
}

func TestDecoderByteByByte(t *testing.T) {
	d := NewDecoder()
	someTexts(func(s string) { checkFed(t, d, singles(s)) })
}

// Each byte behind what is held.
func TestDecoderWithEachByte(t *testing.T) {
	d := NewDecoder()
	for b := range 256 {
		next := string([]byte{byte(b)})
		checkFed(t, d, []string{next})
		checkFed(t, d, []string{"a%", next, "1"})
		checkFed(t, d, []string{"a%4", next, "1"})
		checkFed(t, d, []string{"a%4", "1", next})
		checkFed(t, d, []string{"a%" + next})
		checkFed(t, d, []string{next + "%", "41"})
	}
}

func TestDecoderWithEmptyPieces(t *testing.T) {
	checkFed(t, NewDecoder(), []string{"", "%", "", "4", "", "", "1", ""})
	checkFed(t, NewDecoder(), []string{"", "", ""})
	checkFed(t, NewDecoder(), []string{"%4", "", ""})
}

func TestDecoderStepByStep(t *testing.T) {
	d := NewDecoder()
	for _, c := range []struct{ feed, want, held string }{
		{"a%4", "a", "%4"}, {"1%", "A", "%"}, {"", "", "%"}, {"%", "%", "%"}, {"4", "", "%4"}, {"%", "%4", "%"}, {"a", "", "%a"}, {"f%af", "\xaf\xaf", ""},
		{"41", "41", ""}, {"%g", "%g", ""}, {"%25", "%", ""}, {"41%", "41", "%"}, {"G%F", "%G", "%F"}, {"G", "%FG", ""}, {"+%", "+", "%"},
	} {
		if got := d.Feed(c.feed); got != c.want || d.Held() != c.held {
			t.Errorf("Feed(%q) = %q and holds %q, want %q and %q", c.feed, got, d.Held(), c.want, c.held)
		}
	}
	if got := d.End(); got != "%" || d.Held() != "" {
		t.Errorf("End() = %q and holds %q, want %% and nothing", got, d.Held())
	}
}

// After its end a Decoder is as new.
func TestDecoderAfterItsEnd(t *testing.T) {
	d := NewDecoder()
	if got := d.End(); got != "" || d.Held() != "" {
		t.Errorf("a new one: End() = %q, Held() = %q", got, d.Held())
	}
	for _, held := range []string{"%", "%4"} {
		if got := d.Feed(held) + d.Held(); got != held {
			t.Errorf("%q: %q is held", held, got)
		}
		if got := d.End(); got != held {
			t.Errorf("%q: End() = %q", held, got)
		}
		if got := d.End(); got != "" {
			t.Errorf("%q: a second End() = %q", held, got)
		}
		if got := d.Feed("41"); got != "41" || d.Held() != "" {
			t.Errorf("%q: Feed behind an end = %q and holds %q, want 41 and nothing", held, got, d.Held())
		}
	}
}

func TestDecodersAreApart(t *testing.T) {
	a, b := NewDecoder(), NewDecoder()
	a.Feed("%4")
	if got := b.Feed("1"); got != "1" || b.Held() != "" {
		t.Errorf("the other one: %q, and holds %q", got, b.Held())
	}
	if got := a.Feed("1"); got != "A" {
		t.Errorf("the one: %q, want A", got)
	}
}

func TestNilDecoder(t *testing.T) {
	var d *Decoder
	for _, s := range []string{"", "a", "%", "%4", "%41"} {
		if got := d.Feed(s); got != "" || d.Held() != "" || d.End() != "" {
			t.Errorf("Feed(%q) = %q, Held() = %q, want nothing", s, got, d.Held())
		}
	}
}

// Rule R1, of a long text in short pieces.
func TestDecoderOfALongText(t *testing.T) {
	const n = 1 << 16
	d := NewDecoder()
	var out strings.Builder
	for _, piece := range singles(strings.Repeat("%41%%4", n)) {
		out.WriteString(d.Feed(piece))
	}
	out.WriteString(d.End())
	if want := strings.Repeat("A%%4", n); out.String() != want {
		t.Errorf("%d bytes came out, want %d", out.Len(), len(want))
	}
}
