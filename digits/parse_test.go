package digits

import (
	"cmp"
	"math"
	"math/big"
	"slices"
	"strconv"
	"strings"
	"testing"

	"postern/api"
	"postern/real"
)

// is and is32 tell of a text that is not read as it should be.
func is(t *testing.T, s string, want float64) {
	t.Helper()
	if x, at, e := Parse(s); !alike(x, want) || at != 0 || e != api.OK {
		t.Errorf("Parse(%.60q) of %d bytes: %v, %d, %d, not %v", s, len(s), x, at, e, want)
	}
}

func is32(t *testing.T, s string, want float32) {
	t.Helper()
	if x, at, e := Parse32(s); !alike32(x, want) || at != 0 || e != api.OK {
		t.Errorf("Parse32(%.60q) of %d bytes: %v, %d, %d, not %v", s, len(s), x, at, e, want)
	}
}

// Promise 6.1: the chapter's examples and other ordinary texts.
func TestParse(t *testing.T) {
	is(t, "0.1", math.Float64frombits(4591870180066957722))
	for s, want := range map[string]float64{
		"1e400": infinity, "-1e400": -infinity, "-0": below0, "0": 0, "+0": 0, "9007199254740993": 9007199254740992, "9007199254740993.0000000001": 9007199254740994,
		".5": 0.5, "5.": 5, "-.5": -0.5, "+5.": 5, "5.e1": 50, ".5e1": 5, "1E2": 100, "1e+2": 100, "1e-2": 0.01, "0012.500e3": 12500, "-1.5": -1.5, "123456789": 123456789, "1e22": 1e22, "1e23": 1e23, "8.41e21": 8.41e21,
		"inf": infinity, "+inf": infinity, "-inf": -infinity, "nan": math.NaN(), "+nan": math.NaN(), "-nan": math.NaN(),
		"0e999999999999999999999": 0, "-0.000e-999999999999999999999": below0, "-0e5": below0, "-.0": below0, "-0.": below0, "0.0000": 0,
	} {
		is(t, s, want)
		is32(t, s, float32(want))
	}
}

// Promise 6.1 and the chapter's fourth example: halfway between floats of 32 bits.
func TestParse32(t *testing.T) {
	half := "1.000000059604644775390625"
	is32(t, half, 1)
	is32(t, "-"+half, -1)
	is32(t, half+"1", math.Nextafter32(1, 2))
	is32(t, half+strings.Repeat("0", api.MaxDecimal-len(half)-1)+"1", math.Nextafter32(1, 2))
	is32(t, less(half), 1)
	far := half + "00000000000000001"
	is32(t, far, math.Nextafter32(1, 2))
	if x, _, _ := Parse(far); real.Narrow(x) != 1 {
		t.Error("Narrow of Parse of it:", real.Narrow(x))
	}
}

// Promise 6.1: the least subnormal, half of it and a little more; the greatest finite float and halfway to infinite.
func TestEnds(t *testing.T) {
	halfLeast, halfMost := inFull(middle(new(big.Rat), rat64(least))), inFull(middle(rat64(most), size64(math.Float64bits(infinity))))
	halfLeast32, halfMost32 := inFull(middle(new(big.Rat), rat64(least32))), inFull(middle(rat64(most32), size32(uint64(math.Float32bits(float32(infinity))))))
	for s, want := range map[string]float64{
		"5e-324": least, "4.9e-324": least, "2.4703282292062328e-324": least, "2.4703282292062327e-324": 0, halfLeast: 0, halfLeast + "1": least, less(halfLeast): 0, "7.41e-324": least, "7.42e-324": 2 * least, "1e-324": 0, "1e-400": 0, "3e-324": least,
		"1.7976931348623157e308": most, "1.7976931348623158e308": most, "1.7976931348623159e308": infinity, halfMost: infinity, halfMost + ".0000001": infinity, less(halfMost): most, "1.8e308": infinity, "1e309": infinity, "2e308": infinity,
		"2.2250738585072014e-308": 0x1p-1022, "2.2250738585072011e-308": 0x1p-1022 - least, "2.225073858507201e-308": 0x1p-1022 - least,
	} {
		is(t, s, want)
		is(t, "-"+s, math.Copysign(want, -1))
	}
	infinity32 := float32(infinity)
	for s, want := range map[string]float32{
		"1e-45": least32, "1.4e-45": least32, "7.0064923216240854e-46": least32, "7.0064923216240853e-46": 0, halfLeast32: 0, halfLeast32 + "1": least32, less(halfLeast32): 0, "2.2e-45": 2 * least32, "1e-46": 0, "1e-400": 0, "5e-324": 0,
		"3.4028235e38": most32, "3.4028235677973366e38": most32, "3.4028235677973367e38": infinity32, halfMost32: infinity32, less(halfMost32): most32, halfMost32 + ".01": infinity32, "3.5e38": infinity32, "1e400": infinity32, "1e39": infinity32,
	} {
		is32(t, s, want)
		is32(t, "-"+s, float32(math.Copysign(float64(want), -1)))
	}
}

// less is a number that is less than what a text of digits says, by one digit far behind.
func less(s string) string {
	at := len(strings.TrimRight(s, "0.")) - 1
	behind := strings.ReplaceAll(s[at+1:], "0", "9")
	if !strings.Contains(s, ".") {
		behind += "."
	}
	return s[:at] + string([]byte{s[at] - 1}) + behind + strings.Repeat("9", 20)
}

// Promise 6.1: texts halfway between two floats, and by one digit far behind beside that, of 64 bits.
func TestHalfway(t *testing.T) {
	for _, x := range finite(floats(300)) {
		b := math.Float64bits(math.Abs(x))
		if b+1 == math.Float64bits(infinity) {
			continue
		}
		half := inFull(middle(size64(b), size64(b+1)))
		up, even := math.Float64frombits(b+1), math.Float64frombits(b+b%2)
		is(t, half, even)
		is(t, more(half), up)
		is(t, less(half), math.Float64frombits(b))
		is(t, "-"+less(half), -math.Float64frombits(b))
		is(t, withPower(half, 0), even)
		is(t, withPower(half, 1), up)
	}
}

// Promise 6.1: the same of 32 bits.
func TestHalfway32(t *testing.T) {
	s, all := source(3), []uint32{0, 1, 2, 1<<23 - 2, 1<<23 - 1, 1 << 23, 1<<23 + 1, 0x3f7fffff, 0x3f800000, 0x3f800001, 0x7f7ffffe}
	for range 400 {
		all = append(all, math.Float32bits(s.float32())&0x7fffffff%0x7f7fffff)
	}
	for _, b := range all {
		half := inFull(middle(size32(uint64(b)), size32(uint64(b+1))))
		up, even := math.Float32frombits(b+1), math.Float32frombits(b+b%2)
		is32(t, half, even)
		is32(t, more(half), up)
		is32(t, less(half), math.Float32frombits(b))
		is32(t, "-"+less(half), -math.Float32frombits(b))
		is32(t, withPower(half, 0), even)
		is32(t, withPower(half, 1), up)
	}
}

// more is a number that is greater by a digit at the last byte that a text may have.
func more(s string) string {
	if !strings.Contains(s, ".") {
		s += "."
	}
	return s + strings.Repeat("0", api.MaxDecimal-len(s)-1) + "1"
}

// withPower is the digits of a text with a power of ten behind them; plus is added at the last of some places more.
func withPower(s string, plus int) string {
	whole, fraction, _ := strings.Cut(s, ".")
	return strings.TrimLeft(whole+fraction, "0") + strings.Repeat("0", 9) + strconv.Itoa(plus) + "E-00" + strconv.Itoa(len(fraction)+10)
}

// Promise 6.1: powers as great as they like, and texts whose digits make up for a power.
func TestGreatPowers(t *testing.T) {
	nines, noughts := strings.Repeat("9", 1190), strings.Repeat("0", 1190)
	for s, want := range map[string]float64{
		"1e" + nines: infinity, "-1e" + nines: -infinity, "1e-" + nines: 0, "-1e-" + nines: below0, "0e" + nines: 0, "-0e" + nines: below0, "0e-" + nines: 0,
		"1e" + noughts: 1, "1e-" + noughts + "2": 0.01, "1e+" + noughts + "5": 1e5, "1e" + noughts + "400": infinity, "-1e-" + noughts + "400": below0, noughts + "1e2": 100, noughts + ".5": 0.5,
		"1e2147483648": infinity, "1e-2147483648": 0, "1e4294967296": infinity, "1e-4294967297": 0, "1e9223372036854775807": infinity, "1e9223372036854775808": infinity, "1e-9223372036854775808": 0, "1e-9223372036854775809": 0, "1e18446744073709551616": infinity, "1e-18446744073709551617": 0,
		"." + noughts + "1e1191": 1, "." + noughts + "15e1192": 15, "." + noughts + "5e867": least, "." + noughts[:1180] + "24e857": 0, "1" + noughts[:1180] + "e-1180": 1, "5" + noughts[:1180] + "e-1504": least, "1" + noughts[:1180] + "e-872": 1e308, "1" + noughts[:1180] + "e-871": infinity,
		"." + noughts[:1180] + "1e1489": 1e308, "." + noughts[:1180] + "1e1490": infinity, "1" + noughts[:1000] + "e-1324": 0, "3" + noughts[:1000] + "e-1324": least, "1e308": 1e308, "1e309": infinity, "1e99999999": infinity, "1e100000000": infinity, "1e-100000001": 0,
	} {
		is(t, s, want)
	}
	is32(t, "1e"+nines, float32(infinity))
	is32(t, "-1e-"+nines, float32(math.Copysign(0, -1)))
	is32(t, "."+noughts+"1e1191", 1)
	is32(t, "1"+noughts[:1180]+"e-1225", least32)
}

// Promise 6.1: texts of all manners, against exact numbers and the library.
func TestParseOfMany(t *testing.T) {
	s := source(4)
	for i := range 6000 {
		text := s.decimal(4+i%40, []int{3, 30, 330}[i%3])
		if i%50 == 0 {
			text = s.decimal(1100, 1400)
		}
		x, _ := strconv.ParseFloat(text, 64)
		y, _ := strconv.ParseFloat(text, 32)
		is(t, text, x)
		is32(t, text, float32(y))
		if i%10 == 0 {
			is(t, text, want64(text))
			is32(t, text, want32(text))
		}
	}
}

// Promise 6.6: texts of floats are read as these, bit by bit.
func TestThereAndBack(t *testing.T) {
	for _, x := range floats(2000) {
		is(t, Shortest(x), x)
		is(t, Exact(x), x)
		if len(Exact(x)) > api.MaxDecimal {
			t.Error("Exact of", x, "has too many bytes")
		}
	}
	s := source(5)
	for _, b := range []uint32{0, 1 << 31, 1, 2, 1<<23 - 1, 1 << 23, 0x7f7fffff, 0x7f800000, 0xff800000, 0x7fc00000, 0xffc00001, 0x3f800000, 0xbf7fffff} {
		x := math.Float32frombits(b)
		is32(t, Shortest32(x), x)
	}
	for range 5000 {
		x := s.float32()
		is32(t, Shortest32(x), x)
	}
}

// Promise 6.6: Parse rises, and so does Parse32.
func TestParseRises(t *testing.T) {
	type said struct {
		text   string
		number *big.Rat
	}
	var l []said
	s := source(7)
	for range 300 {
		text := s.decimal(30, 330)
		l = append(l, said{text, fraction(text)})
	}
	for _, x := range finite(floats(0)) {
		if b := math.Float64bits(math.Abs(x)); b+1 < math.Float64bits(infinity) {
			half := inFull(middle(size64(b), size64(b+1)))
			for _, text := range []string{half, less(half), half + "e-00", Exact(x), Shortest(x)} {
				l = append(l, said{text, fraction(text)})
			}
		}
	}
	slices.SortFunc(l, func(a, b said) int { return a.number.Cmp(b.number) })
	for i := range l[1:] {
		x, _, _ := Parse(l[i].text)
		y, _, _ := Parse(l[i+1].text)
		u, _, _ := Parse32(l[i].text)
		v, _, _ := Parse32(l[i+1].text)
		if x > y || u > v {
			t.Errorf("%.60q is read as %v, %v, and %.60q as %v, %v", l[i].text, x, u, l[i+1].text, y, v)
		}
		if c := cmp.Compare(x, y); c != 0 && l[i].number.Cmp(l[i+1].number) == 0 {
			t.Errorf("%.60q and %.60q say the same", l[i].text, l[i+1].text)
		}
	}
}
