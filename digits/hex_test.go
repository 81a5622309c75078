package digits

import (
	"math"
	"math/big"
	"strconv"
	"strings"
	"testing"

	"postern/api"
)

// Promise 6.5: Hex by name, subnormal ones among them.
func TestHex(t *testing.T) {
	for x, want := range map[float64]string{
		1.5: "0x1.8p+0", 5e-324: "0x1p-1074", 1: "0x1p+0", -1: "-0x1p+0", 2: "0x1p+1", 0.5: "0x1p-1", 0.1: "0x1.999999999999ap-4", 10: "0x1.4p+3", -0.75: "-0x1.8p-1", 0: "0x0p+0", infinity: "inf", -infinity: "-inf",
		2 * least: "0x1p-1073", 3 * least: "0x1.8p-1073", 0x1p-1022 - least: "0x1.ffffffffffffep-1023", 0x1p-1022: "0x1p-1022", 0x1p-1022 + least: "0x1.0000000000001p-1022", -5 * least: "-0x1.4p-1072", most: "0x1.fffffffffffffp+1023", 1 + 0x1p-52: "0x1.0000000000001p+0", 0x1.abcdefp100: "0x1.abcdefp+100", 17: "0x1.1p+4",
	} {
		if s := Hex(x); s != want {
			t.Errorf("Hex(%v): %q, not %q", x, s, want)
		}
	}
	if s := Hex(below0); s != "-0x0p+0" {
		t.Error("Hex(-0):", s)
	}
	for _, b := range []uint64{0x7ff8000000000000, 0xfff8000000000000, 0x7ff0000000000001, 0xffffffffffffffff} {
		if s := Hex(math.Float64frombits(b)); s != "nan" {
			t.Errorf("Hex of %x: %q", b, s)
		}
	}
}

// Promise 6.5: floats of all kinds; and 6.10: ParseHex of Hex(x) is x.
func TestHexOfMany(t *testing.T) {
	for _, x := range floats(10000) {
		want, named := nameOf(x)
		if !named {
			want = shortPower(strconv.FormatFloat(x, 'x', -1, 64))
			isHex(t, want, x)
			isHex(t, strings.ToUpper(want), x)
		}
		if s := Hex(x); s != want {
			t.Errorf("Hex(%v): %q, not %q", x, s, want)
		}
	}
}

// isHex tells of a text to the base 16 that is not read as it should be.
func isHex(t *testing.T, s string, want float64) {
	t.Helper()
	if x, at, e := ParseHex(s); !alike(x, want) || at != 0 || e != api.OK {
		t.Errorf("ParseHex(%.60q) of %d bytes: %v, %d, %d, not %v", s, len(s), x, at, e, want)
	}
}

// Promise 6.7: ParseHex by name: noughts, halfway cases, both ends, powers as great as they like.
func TestParseHex(t *testing.T) {
	nines, noughts := strings.Repeat("9", 1190), strings.Repeat("0", 1190)
	for s, want := range map[string]float64{
		"0x1.8p1": 3, "0x.1p-1070": least, "0x1p0": 1, "0X1P0": 1, "0xfFp0": 255, "0xAbC.dEfp+4": 0xabcd.efp0, "0x0p0": 0, "0x0.0p999": 0, "0x.8p1": 1, "0x8.p1": 16, "0x10p-4": 1, "0x0001p1": 2, "0x1p01": 2, "0x.0001p16": 1, "+0x1p-1": 0.5,
		"0x1.00000000000008p0": 1, "0x1.00000000000018p0": 1 + 0x1p-51, "0x1.000000000000080000000000000000000001p0": 1 + 0x1p-52, "0x1.00000000000007ffffffffffffffffp0": 1, "0x20000000000001p0": 0x1p53, "0x20000000000003p0": 0x1p53 + 4, "0x20000000000001.000000000000000000000001p0": 0x1p53 + 2,
		"0x1p-1074": least, "0x1p-1075": 0, "0x1.0000000000000000000000001p-1075": least, "0x1.8p-1074": 2 * least, "0x3p-1075": 2 * least, "0x1.7fffffffffffffffffffffffp-1074": least, "0x0.8p-1074": 0, "0x1p-1076": 0, "0xfp-1078": least, "0x1p-1022": 0x1p-1022, "0x0.fffffffffffffp-1022": 0x1p-1022 - least, "0x0.fffffffffffff8p-1022": 0x1p-1022,
		"0x1.fffffffffffffp1023": most, "0x1.fffffffffffff7ffffffffffp1023": most, "0x1.fffffffffffff8p1023": infinity, "0x1p1024": infinity, "0x.1p1028": infinity, "0x.1p1027": 0x1p1023,
		"0x1p" + nines: infinity, "0x1p-" + nines: 0, "0x0p" + nines: 0, "0x1p" + noughts: 1, "0x1p-" + noughts + "1": 0.5, "0x" + noughts + "1p3": 8, "0x." + noughts + "1p4764": 1, "0x." + noughts[:1180] + "1p3650": least, "0x1" + noughts[:1180] + "p-4720": 1, "0x1" + noughts[:1180] + "p-5794": least, "0x1" + noughts[:1180] + "p-3696": infinity, "0x1" + noughts[:1180] + "p-3697": 0x1p1023,
		"0x1" + noughts[:1180] + "8p-4724": 1, "0x1" + noughts[:12] + "8" + noughts[:1000] + "1p-4056": 1 + 0x1p-49, "0x1" + noughts[:13] + "8" + noughts[:1000] + "1p-4060": 1 + 0x1p-52, "0x1" + noughts[:13] + "8" + noughts[:1000] + "p-4056": 1,
		"0x1p2147483648": infinity, "0x1p-4294967296": 0, "0x1p9223372036854775808": infinity, "0x1p-9223372036854775809": 0, "0x1p18446744073709551616": infinity,
	} {
		isHex(t, s, want)
		if s[0] != '+' {
			isHex(t, "-"+s, math.Copysign(want, -1))
			isHex(t, "+"+s, want)
		}
	}
}

// Promise 6.7: texts halfway between two floats, and by one digit far behind beside that.
func TestHalfwayHex(t *testing.T) {
	for _, x := range finite(floats(500)) {
		b := math.Float64bits(math.Abs(x))
		if b+1 == math.Float64bits(infinity) {
			continue
		}
		up, even := math.Float64frombits(b+1), math.Float64frombits(b+b%2)
		half := middle(size64(b), size64(b+1))
		power := half.Denom().BitLen() - 1
		digits := half.Num().Text(16)
		isHex(t, "0x"+digits+"p-"+strconv.Itoa(power), even)
		isHex(t, "0x"+digits+"."+strings.Repeat("0", 800)+"1p-"+strconv.Itoa(power), up)
		isHex(t, "0x"+digits+strings.Repeat("0", 300)+"p-"+strconv.Itoa(power+1200), even)
		lower := new(big.Int).Sub(half.Num(), big.NewInt(1)).Text(16)
		isHex(t, "0x"+lower+"."+strings.Repeat("f", 300)+"p-"+strconv.Itoa(power), math.Float64frombits(b))
	}
}

// Promise 6.7: texts of all manners, against exact numbers and the library.
func TestParseHexOfMany(t *testing.T) {
	s := source(8)
	for i := range 10000 {
		size := 1 + s.below(30)
		if i%50 == 0 {
			size = 1 + s.below(1100)
		}
		digits := s.text([]string{"0123456789abcdefABCDEF", "01", "0f", "08"}[i%4], size)
		at := s.below(len(digits) + 1)
		text := []string{"", "+", "-"}[s.below(3)] + "0" + []string{"x", "X"}[s.below(2)] + digits[:at] + "." + digits[at:] + []string{"p", "P"}[s.below(2)] + strconv.Itoa(s.below(2400)-1200)
		want, _ := strconv.ParseFloat(text, 64)
		isHex(t, text, want)
		if i%20 == 0 {
			isHex(t, text, wantHex(text))
		}
	}
}

// wantHex is the number of a text to the base 16, digit by digit, and rounded.
func wantHex(s string) float64 {
	lower := strings.TrimLeft(strings.ToLower(s), "+-")
	mantissa, power, _ := strings.Cut(lower[2:], "p")
	whole, fraction, _ := strings.Cut(mantissa, ".")
	n, _ := new(big.Int).SetString("0"+whole+fraction, 16)
	k, _ := strconv.Atoi(power)
	k -= 4 * len(fraction)
	r := new(big.Rat).SetInt(new(big.Int).Lsh(n, uint(max(k, 0))))
	r.Quo(r, new(big.Rat).SetInt(new(big.Int).Lsh(big.NewInt(1), uint(max(-k, 0)))))
	x := math.Float64frombits(wantBits(r, size64, math.Float64bits(infinity)))
	if s[0] == '-' {
		return math.Copysign(x, -1)
	}
	return x
}
