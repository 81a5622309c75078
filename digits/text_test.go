package digits

import (
	"math"
	"regexp"
	"strings"
	"testing"

	"postern/api"
)

// reader is one of the calls that read a text, without what it reads.
type reader struct {
	name string
	call func(string) (nothing bool, at int, e api.Errno)
}

func decimalReaders() []reader {
	return []reader{
		{"Parse", func(s string) (bool, int, api.Errno) {
			x, at, e := Parse(s)
			return math.Float64bits(x) == 0, at, e
		}},
		{"Parse32", func(s string) (bool, int, api.Errno) {
			x, at, e := Parse32(s)
			return math.Float32bits(x) == 0, at, e
		}},
		{"Normal", func(s string) (bool, int, api.Errno) {
			text, at, e := Normal(s)
			return text == "", at, e
		}},
	}
}

func hexReaders() []reader {
	return []reader{{"ParseHex", func(s string) (bool, int, api.Errno) {
		x, at, e := ParseHex(s)
		return math.Float64bits(x) == 0, at, e
	}}}
}

// checkFault holds what calls say of a text's fault against what is wanted.
func checkFault(t *testing.T, readers []reader, s string, at int, want api.Errno) {
	t.Helper()
	for _, r := range readers {
		nothing, place, e := r.call(s)
		if place != at || e != want || want != api.OK && !nothing {
			t.Errorf("%s(%.60q): %d, %d, not %d, %d; the other answer is its zero value: %v", r.name, s, place, e, at, want, nothing)
		}
	}
}

// checkAllTexts goes through all beginnings of so many bytes of an alphabet, with every byte behind each.
func checkAllTexts(t *testing.T, readers []reader, whole *regexp.Regexp, ends []string, alphabet string, size int) {
	t.Helper()
	begun := []string{""}
	for range size {
		var longer []string
		for _, s := range begun {
			for b := range 256 {
				text := s + string([]byte{byte(b)})
				at, fault := wantFault(text, whole, ends)
				if fault {
					checkFault(t, readers, text, at, api.ErrDecimal)
				} else {
					checkFault(t, readers, text, 0, api.OK)
				}
				if (!fault || at == len(text)) && strings.IndexByte(alphabet, byte(b)) >= 0 {
					longer = append(longer, text)
				}
			}
		}
		if t.Failed() {
			return
		}
		begun = longer
	}
}

// Promises 6.1 and 6.9: every byte behind every beginning, at each place of the grammar.
func TestEveryDecimalBeginning(t *testing.T) {
	checkAllTexts(t, decimalReaders(), decimalText, decimalEnds, "+-.1einfa", 7)
}

// Promise 6.7: the same to the base 16.
func TestEveryHexBeginning(t *testing.T) {
	checkAllTexts(t, hexReaders(), hexText, hexEnds, "-0x.ap", 8)
}

// Promises 6.1 and 6.9: faults by name.
func TestDecimalFaults(t *testing.T) {
	for s, at := range map[string]int{
		"": 0, "+": 1, "-": 1, ".": 1, "+.": 2, "-.": 2, "1e": 2, "1E": 2, "1e+": 3, "1e-": 3, ".5e": 3, "5.e": 3, "-1.5e-": 6,
		"i": 1, "in": 2, "n": 1, "na": 2, "-i": 2, "+in": 3, "-na": 3, "infinity": 3, "inf0": 3, "nan0": 3, "-inf ": 4, "nane1": 3, "inff": 3, "Inf": 0, "INF": 0, "NaN": 0, "iNf": 1, "inF": 2, "nAn": 1, "naN": 2,
		"++1": 1, "+-1": 1, "--": 1, " 1": 0, "1 ": 1, "x": 0, "e": 0, "e1": 0, "-e1": 1, "E1": 0, "..": 1, ".e1": 1, ".-1": 1, ".i": 1, "1..": 2, "1.2.": 3, "1.+": 2, "1-": 1, "1x": 1, "0x1": 1, "1_0": 1, "1,5": 1,
		"1e5.": 3, "1e.": 2, "1e5e": 3, "1ee": 2, "1e+-": 3, "1e++1": 3, "1e1x": 3, "1e1+": 3, "1ex": 2, "1e ": 2, "1i": 1, "1n": 1, "12inf": 2, "1\x00": 1, "\x00": 0, "1\n": 1, "\xff": 0, "١": 0, "1٢": 1, "−1": 0, "1f": 1, "1p1": 1,
	} {
		checkFault(t, decimalReaders(), s, at, api.ErrDecimal)
	}
	for _, s := range []string{"0", "00", "-0", "+0", ".0", "0.", "-.5", "+5.", "5.e1", ".5E1", "1e1", "1E1", "1e+1", "1E-1", "1e00", "007", "0007.5000e-0007", "inf", "+inf", "-inf", "nan", "+nan", "-nan", "1.5e5", "9"} {
		checkFault(t, decimalReaders(), s, 0, api.OK)
	}
}

// Promise 6.7: faults by name.
func TestHexFaults(t *testing.T) {
	for s, at := range map[string]int{
		"": 0, "+": 1, "-": 1, "0": 1, "-0": 2, "0x": 2, "0X": 2, "0x.": 3, "0x1": 3, "0x1.": 4, "0x1.8": 5, "0x.8": 4, "0x1p": 4, "0x1p+": 5, "0x1P-": 5, "-0x1.8p": 7,
		"1": 0, "x": 0, "00x1p0": 1, "0 x": 1, "0y": 1, "0xx": 2, "0x-1p0": 2, "0xp0": 2, "0x.p0": 3, "0x..": 3, "0x1..": 4, "0x1g": 3, "0x1G": 3, "0x1/": 3, "0x1:": 3, "0x1@": 3, "0x1`": 3, "0x\x10": 2, "0x\x19": 2, "0x1e+": 4,
		"0x1pa": 4, "0x1p0a": 5, "0x1p+-1": 5, "0x1p1.": 5, "0x1p1p1": 5, "0x1p ": 4, "0x1pp": 4, "++0x1p0": 1, "+-0x1p0": 1, "inf": 0, "nan": 0, "-inf": 1, "0x1_0p0": 3, "0xinfp0": 2, " 0x1p0": 0, "0x1p0 ": 5, "\xff": 0, "0x1p٢": 4, "1.5": 0, "0.5": 1,
	} {
		checkFault(t, hexReaders(), s, at, api.ErrDecimal)
	}
	for _, s := range []string{"0x0p0", "0X0P0", "-0x0p0", "+0x1p+1", "0x.8p-1", "0x8.p1", "0xabcdef.ABCDEFp0", "0x1p00012", "0x00.00p-0"} {
		checkFault(t, hexReaders(), s, 0, api.OK)
	}
}

// Promises 6.1, 6.7 and 6.9: texts of MaxDecimal bytes and of one more, with a fault and without.
func TestLengths(t *testing.T) {
	ones := func(n int) string { return strings.Repeat("1", n) }
	for _, c := range []struct {
		readers []reader
		ahead   string
		behind  string
		at      int
		e       api.Errno
	}{
		{decimalReaders(), "", "", 0, api.OK}, {decimalReaders(), "-.", "", 0, api.OK}, {decimalReaders(), "1e", "", 0, api.OK}, {decimalReaders(), "1e-", "", 0, api.OK},
		{decimalReaders(), "", "e", 1200, api.ErrDecimal}, {decimalReaders(), "", "e-", 1200, api.ErrDecimal}, {decimalReaders(), "", "x", 1199, api.ErrDecimal}, {decimalReaders(), "x", "", 0, api.ErrDecimal}, {decimalReaders(), "inf", "", 3, api.ErrDecimal},
		{hexReaders(), "0x", "p1", 0, api.OK}, {hexReaders(), "-0x.", "p-1", 0, api.OK}, {hexReaders(), "0x1p", "", 0, api.OK},
		{hexReaders(), "0x", "", 1200, api.ErrDecimal}, {hexReaders(), "0x", "p", 1200, api.ErrDecimal}, {hexReaders(), "", "", 0, api.ErrDecimal},
	} {
		size := 1200 - len(c.ahead) - len(c.behind)
		checkFault(t, c.readers, c.ahead+ones(size)+c.behind, c.at, c.e)
		for _, more := range []int{1, 2, 1000, 100000} {
			checkFault(t, c.readers, c.ahead+ones(size+more)+c.behind, 1200, api.ErrLong)
		}
	}
	if api.MaxDecimal != 1200 || api.ErrDecimal != 60 || api.ErrLong != 61 || api.ErrPlaces != 62 {
		t.Error("the chapter's numbers")
	}
}

// R1: bytes that look like chance, and what the calls answer twice.
func TestAnyBytes(t *testing.T) {
	s := source(1)
	for range 20000 {
		text := s.text("+-..0123456789eEpPxXinfa\x00\xff ", s.below(12))
		for _, c := range []struct {
			readers []reader
			whole   *regexp.Regexp
			ends    []string
		}{{decimalReaders(), decimalText, decimalEnds}, {hexReaders(), hexText, hexEnds}} {
			at, fault := wantFault(text, c.whole, c.ends)
			want := api.OK
			if fault {
				want = api.ErrDecimal
			}
			checkFault(t, c.readers, text, at, want)
			checkFault(t, c.readers, text, at, want)
		}
	}
}
