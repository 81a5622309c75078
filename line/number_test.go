package line

import (
	"math"
	"math/rand"
	"slices"
	"strconv"
	"strings"
	"testing"

	"postern/api"
	"postern/digits"
)

func checkPoint(t *testing.T, s string) {
	t.Helper()
	p, e := Point(s)
	if want, f := wantPoint(s); p != want || e != f {
		t.Errorf("Point(%q): %d, %d, not %d, %d", s, p, e, want, f)
	}
}

// Promise 9.2, by hand.
func TestPointByHand(t *testing.T) {
	for s, want := range map[string]rune{
		"00e9": 233, "00E9": 233, "0000": 0, "00000": 0, "000000": 0, "0041": 65, "00041": 65, "000041": 65, "FFFF": 65535, "ffff": 65535, "fFfF": 65535, "10000": 65536, "1F600": 128512, "1f600": 128512, "0fffff": 1048575, "10FFFF": 1114111, "10ffff": 1114111, "D800": 55296, "dfff": 57343,
	} {
		if p, e := Point(s); p != want || e != api.OK {
			t.Errorf("Point(%q): %d, %d, not %d", s, p, e, want)
		}
	}
	for _, s := range []string{
		"", "0", "E9", "041", "fff", "0000041", "0010FFFF", "010FFFF", "110000", "200000", "FFFFFF", "ffffff", "00000000000000000000000041", "1000000000000041",
		" 0041", "0041 ", "\t0041", "0041\n", "00 41", "-041", "+041", "-0041", "+0041", "U+0041", "0x41", "0x0041", "004G", "004g", "g041", "004@", "004`", "004/", "004:", "0041..0042", "0041.", "00_41", "004\x00", "004\xc3", "\xef\xbc\x90041", "٠٠٤١",
	} {
		if p, e := Point(s); p != 0 || e != api.ErrPoint {
			t.Errorf("Point(%q): %d, %d", s, p, e)
		}
	}
}

// Promise 9.2: each code point as it may be written, and each byte at each place.
func TestPointOfMany(t *testing.T) {
	for p := range rune(api.MaxPoint + 2000) {
		great := strings.ToUpper(strconv.FormatInt(int64(p), 16))
		for size := 4; size <= 6; size++ {
			if size < len(great) {
				continue
			}
			want, f := p, api.OK
			if p > api.MaxPoint {
				want, f = 0, api.ErrPoint
			}
			s := strings.Repeat("0", size-len(great)) + great
			if got, e := Point(s); got != want || e != f {
				t.Fatalf("Point(%q): %d, %d", s, got, e)
			}
			if got, e := Point(strings.ToLower(s)); got != want || e != f {
				t.Fatalf("Point(%q) in small letters: %d, %d", s, got, e)
			}
		}
	}
	for _, s := range []string{"041", "0041", "00041", "10fFfF", "100000", "0000041"} {
		for i := range len(s) {
			for b := range 256 {
				other := []byte(s)
				other[i] = byte(b)
				checkPoint(t, string(other))
			}
		}
	}
}

// Promise 9.2, by hand.
func TestRangeByHand(t *testing.T) {
	for s, want := range map[string]api.Span{
		"0041": {From: 65, To: 65}, "0041..0041": {From: 65, To: 65}, "0041..0042": {From: 65, To: 66}, "0041..005a": {From: 65, To: 90}, "0000..10FFFF": {From: 0, To: api.MaxPoint}, "000041..0042": {From: 65, To: 66}, "10ffff": {From: api.MaxPoint, To: api.MaxPoint}, "10FFFF..10ffff": {From: api.MaxPoint, To: api.MaxPoint}, "d7ff..E000": {From: 0xd7ff, To: 0xe000}, "0000": {},
	} {
		if x, e := Range(s); x != want || e != api.OK {
			t.Errorf("Range(%q): %v, %d, not %v", s, x, e, want)
		}
	}
	for _, s := range []string{
		"", "..", ".", "0042..0041", "10FFFF..0000", "0041.0042", "0041...0042", "0041....0042", "0041..", "..0041", "0041..0042..0043", "0041..0042..", "..0041..0042", "0041 ..0042", "0041.. 0042", "0041 .. 0042", " 0041", "0041 ", "0041..0042 ", " 0041..0042", "0041\t..0042",
		"41", "41..0042", "0041..42", "0041..110000", "110000..110001", "110000", "0041..0000042", "0000041..0042", "0041-0042", "0041,0042", "0041 0042", "0041..x", "x..0041", "0041. .0042", "0041..0042\n", "0041.", ".0041", "0041...", "...0041",
	} {
		if x, e := Range(s); x != (api.Span{}) || e != api.ErrRange {
			t.Errorf("Range(%q): %v, %d", s, x, e)
		}
	}
}

// Promises 9.2 and 9.5: two points with .. between are both; and texts beside them by the model.
func TestRangeOfMany(t *testing.T) {
	points := []rune{0, 1, 65, 66, 0xfff, 0x1000, 0xd800, 0xffff, 0x10000, 0xfffff, 0x100000, api.MaxPoint - 1, api.MaxPoint}
	for _, from := range points {
		for _, to := range points {
			a, _ := Tell([]rune{from})
			b, _ := Tell([]rune{to})
			x, e := Range(a + ".." + b)
			if from <= to && (x != api.Span{From: from, To: to} || e != api.OK) || from > to && (x != api.Span{} || e != api.ErrRange) {
				t.Errorf("Range(%q): %v, %d", a+".."+b, x, e)
			}
		}
	}
	for _, s := range []string{"0041", "0041..0042", "0041..10FFFF", "00fFf..001000", "0042..0041", "0041...0042"} {
		beside(s, "0.1 fFg\t-", func(s string) {
			x, e := Range(s)
			if want, f := wantRange(s); x != want || e != f {
				t.Errorf("Range(%q): %v, %d, not %v, %d", s, x, e, want, f)
			}
		})
	}
}

// beside goes through texts with one byte put in, put in another's place or left out, and their beginnings.
func beside(s, others string, visit func(string)) {
	for i := range len(s) + 1 {
		visit(s[:i])
		for j := range len(others) {
			visit(s[:i] + others[j:j+1] + s[i:])
			if i < len(s) {
				visit(s[:i] + others[j:j+1] + s[i+1:])
			}
		}
		if i < len(s) {
			visit(s[:i] + s[i+1:])
		}
	}
}

// Promise 9.2, by hand.
func TestSequenceByHand(t *testing.T) {
	for s, want := range map[string][]rune{
		"": nil, " ": nil, "   ": nil, "0041": {65}, "0041 030A": {65, 778}, "0041  030A": {65, 778}, "0041     030a    10FFFF": {65, 778, api.MaxPoint}, " 0041": {65}, "0041 ": {65}, "   0041 0042   ": {65, 66}, "0041 0041 0000": {65, 65, 0}, "000041 00042": {65, 66},
	} {
		if l, at, e := Sequence(s); !slices.Equal(l, want) || at != 0 || e != api.OK {
			t.Errorf("Sequence(%q): %v, %d, %d, not %v", s, l, at, e, want)
		}
	}
	for s, want := range map[string]int{
		"x": 0, "0041 x": 1, "0041  x": 1, "0041 x y": 1, "x 0041": 0, "   x": 0, "  0041   x": 1, "0041 0042 0043 44": 3, "0041\t0042": 0, "\t0041": 0, "0041\t": 0, "\t": 0, "0041 \t 0042": 1, "0041 0042\t": 1, "0041 \t0042": 1, "0041\n0042": 0, "0041,0042": 0, "0041..0042": 0, "0041 0042..0043": 1, "110000": 0, "0041 110000": 1, "0041 0000041": 1, "00 41": 0, "0041\u00a00042": 0, "0041 \xff": 1, "0041 -0041": 1, "0041 0042;": 1,
	} {
		if l, at, e := Sequence(s); len(l) != 0 || at != want || e != api.ErrPoint {
			t.Errorf("Sequence(%q): %v, %d, %d, not %d", s, l, at, e, want)
		}
	}
}

// Promise 9.2, by the model, and at length.
func TestSequenceOfMany(t *testing.T) {
	check := func(s string) {
		l, at, e := Sequence(s)
		if want, place, f := wantSequence(s); !slices.Equal(l, want) || at != place || e != f {
			t.Errorf("Sequence(%q): %v, %d, %d, not %v, %d, %d", s, l, at, e, want, place, f)
		}
	}
	for _, s := range []string{"0041", "0041 0042", "  0041   10FFFF  ", "000041 0042 00043", "x 0041", "0041  ffff x  0042"} {
		beside(s, " 0F\tx\n", check)
	}
	for length := range 6 {
		texts(length, " x", check)
	}
	l, at, e := Sequence(strings.Repeat("0041  ", 1<<16))
	if len(l) != 1<<16 || at != 0 || e != api.OK {
		t.Errorf("many words: %d, %d, %d", len(l), at, e)
	}
	if l, at, e := Sequence(strings.Repeat("0041 ", 1<<16) + "41"); len(l) != 0 || at != 1<<16 || e != api.ErrPoint {
		t.Errorf("many words and a wrong one: %d, %d, %d", len(l), at, e)
	}
}

// Promise 9.2, by hand.
func TestWholeByHand(t *testing.T) {
	for s, want := range map[string]int{
		"-12": -12, "0": 0, "-0": 0, "7": 7, "9": 9, "-9": -9, "12": 12, "007": 7, "-007": -7, "000000000": 0, "-000000000": 0, "000000001": 1, "999999999": 999999999, "-999999999": -999999999, "123456789": 123456789, "08": 8, "010": 10,
	} {
		if n, e := Whole(s); n != want || e != api.OK {
			t.Errorf("Whole(%q): %d, %d, not %d", s, n, e, want)
		}
	}
	for _, s := range []string{
		"", "-", "--", "--1", "-+1", "+1", "+", "1-", "1-2", "1234567890", "-1234567890", "0000000000", "0000000001", "-0000000001", "99999999999999999999999999", " 1", "1 ", "- 1", "\t1", "1\n", "1.0", "1e3", "0x1", "a", "1a", "1_0", "1,000", "\x00", "\xff", "٣", "１", "/", ":", "−1",
	} {
		if n, e := Whole(s); n != 0 || e != api.ErrWhole {
			t.Errorf("Whole(%q): %d, %d", s, n, e)
		}
	}
}

// Promise 9.2, by the model.
func TestWholeOfMany(t *testing.T) {
	check := func(s string) {
		n, e := Whole(s)
		if want, f := wantWhole(s); n != want || e != f {
			t.Errorf("Whole(%q): %d, %d, not %d, %d", s, n, e, want, f)
		}
	}
	for length := range 5 {
		texts(length, "019-+ a", check)
	}
	for _, s := range []string{"12345678", "123456789", "-12345678", "-123456789", "1234567890", "-1234567890"} {
		beside(s, "09-+ a.", check)
	}
	r := rand.New(rand.NewSource(9))
	for range 10000 {
		check(strconv.Itoa(r.Intn(4_000_000_000) - 2_000_000_000))
	}
}

// Promise 9.2: floating-point numbers of both sizes are those of layer 6, with another error.
func TestReals(t *testing.T) {
	for s, want := range map[string]float64{
		"0.5": 0.5, "-0": math.Copysign(0, -1), "0": 0, "+1": 1, "1e3": 1000, ".5": 0.5, "5.": 5, "0.1": 0.1, "1e400": math.Inf(1), "-1e400": math.Inf(-1), "inf": math.Inf(1), "-inf": math.Inf(-1), "5e-324": 5e-324, "1e-400": 0, "9007199254740993": 9007199254740992, "1E-2": 0.01,
	} {
		if x, e := Real(s); math.Float64bits(x) != math.Float64bits(want) || e != api.OK {
			t.Errorf("Real(%q): %v, %d, not %v", s, x, e, want)
		}
	}
	for s, want := range map[string]float32{
		"0.5": 0.5, "-0": float32(math.Copysign(0, -1)), "0.1": 0.1, "3.4e38": 3.4e38, "1e39": float32(math.Inf(1)), "-inf": float32(math.Inf(-1)), "16777217": 16777216, "1e-45": 1e-45, "1.000000059604644775390625": 1, "1.0000000596046447753906251": 1.0000001,
	} {
		if x, e := Real32(s); math.Float32bits(x) != math.Float32bits(want) || e != api.OK {
			t.Errorf("Real32(%q): %v, %d, not %v", s, x, e, want)
		}
	}
	for _, s := range []string{"nan", "-nan", "+nan"} {
		x, e := Real(s)
		y, f := Real32(s)
		if x == x || y == y || e != api.OK || f != api.OK {
			t.Errorf("%q: %v, %d, %v, %d", s, x, e, y, f)
		}
	}
	long := strings.Repeat("1", 1200)
	for _, s := range []string{"", "x", ".", "-", "+", "1e", "1e+", "e1", " 1", "1 ", "\t1", "1\n", "1,5", "0x1p0", "infinity", "Inf", "NaN", "--1", "1.2.3", "1_0", long + "1"} {
		x, e := Real(s)
		y, f := Real32(s)
		if math.Float64bits(x) != 0 || math.Float32bits(y) != 0 || e != api.ErrFloat || f != api.ErrFloat {
			t.Errorf("%q: %v, %d, %v, %d", s, x, e, y, f)
		}
	}
	if x, e := Real(long); x != math.Inf(1) || e != api.OK {
		t.Errorf("the longest text: %v, %d", x, e)
	}
}

// Promise 9.2: the same, of short texts of all kinds.
func TestRealsOfMany(t *testing.T) {
	for length := range 5 {
		texts(length, "15.e-+ ", func(s string) {
			x, e := Real(s)
			y, f := Real32(s)
			want, _, bad := digits.Parse(s)
			want32, _, bad32 := digits.Parse32(s)
			if (e == api.ErrFloat) != (bad != api.OK) || (e == api.OK) != (bad == api.OK) || bad == api.OK && math.Float64bits(x) != math.Float64bits(want) {
				t.Errorf("Real(%q): %v, %d, not %v, %d", s, x, e, want, bad)
			}
			if (f == api.ErrFloat) != (bad32 != api.OK) || (f == api.OK) != (bad32 == api.OK) || bad32 == api.OK && math.Float32bits(y) != math.Float32bits(want32) {
				t.Errorf("Real32(%q): %v, %d, not %v, %d", s, y, f, want32, bad32)
			}
		})
	}
}
