package octet

import (
	"math"
	"math/big"
	"strings"
	"testing"

	"postern/api"
)

const digitsOfAll = "0123456789abcdefghijklmnopqrstuvwxyz"

func wrongBases() []int {
	return []int{math.MinInt, -16, -1, 0, 1, 37, 64, 256 + 16, math.MaxInt}
}

// wantDigit tells a digit's worth by its place in the list of all digits.
func wantDigit(b byte, base int) int {
	if base < 2 || base > 36 || b >= 128 {
		return -1
	}
	return strings.IndexByte(digitsOfAll[:base], strings.ToLower(string(rune(b)))[0])
}

func TestDigitOfEachByteToEachBase(t *testing.T) {
	bases := wrongBases()
	for base := range 40 {
		bases = append(bases, base)
	}
	for _, base := range bases {
		for b := range 256 {
			if got, want := Digit(byte(b), base), wantDigit(byte(b), base); got != want {
				t.Errorf("Digit(%d, %d) = %d, want %d", b, base, got, want)
			}
		}
	}
}

func TestDigitEdges(t *testing.T) {
	for _, c := range []struct {
		b          byte
		base, want int
	}{
		{'0', 2, 0}, {'1', 2, 1}, {'2', 2, -1}, {'9', 10, 9}, {'a', 10, -1}, {'a', 11, 10}, {'A', 11, 10}, {'f', 16, 15},
		{'F', 16, 15}, {'g', 16, -1}, {'z', 36, 35}, {'Z', 36, 35}, {'z', 35, -1}, {'/', 36, -1}, {':', 36, -1},
		{'@', 36, -1}, {'[', 36, -1}, {'`', 36, -1}, {'{', 36, -1}, {0, 36, -1}, {255, 36, -1},
		{'0', 1, -1}, {'0', 0, -1}, {'0', 37, -1}, {'0', -1, -1},
	} {
		if got := Digit(c.b, c.base); got != c.want {
			t.Errorf("Digit(%q, %d) = %d, want %d", c.b, c.base, got, c.want)
		}
	}
}

func TestNumber(t *testing.T) {
	const most = "18446744073709551615"
	for _, c := range []struct {
		s    string
		base int
		n    uint64
		at   int
		e    api.Errno
	}{
		{"0", 10, 0, 0, api.OK}, {"0", 2, 0, 0, api.OK}, {"1", 2, 1, 0, api.OK}, {"101", 2, 5, 0, api.OK},
		{"ff", 16, 255, 0, api.OK}, {"fF", 16, 255, 0, api.OK}, {"zZ", 36, 1295, 0, api.OK}, {"0377", 8, 255, 0, api.OK},
		{strings.Repeat("0", 5000), 10, 0, 0, api.OK},
		{strings.Repeat("0", 5000) + "7", 8, 7, 0, api.OK},

		{"", 10, 0, 0, api.ErrDigit}, {"", 2, 0, 0, api.ErrDigit}, {"", 36, 0, 0, api.ErrDigit},
		{"0x", 16, 0, 1, api.ErrDigit}, {"2", 2, 0, 0, api.ErrDigit}, {"12", 2, 0, 1, api.ErrDigit},
		{"+1", 10, 0, 0, api.ErrDigit}, {"-1", 10, 0, 0, api.ErrDigit}, {" 1", 10, 0, 0, api.ErrDigit}, {"1 ", 10, 0, 1, api.ErrDigit},
		{"1_0", 10, 0, 1, api.ErrDigit}, {"1\x00", 10, 0, 1, api.ErrDigit}, {"\xff", 36, 0, 0, api.ErrDigit},
		{"1x2y", 10, 0, 1, api.ErrDigit}, {"12\u0663", 10, 0, 2, api.ErrDigit},

		{most, 10, math.MaxUint64, 0, api.OK},
		{"000" + most, 10, math.MaxUint64, 0, api.OK},
		{"ffffffffffffffff", 16, math.MaxUint64, 0, api.OK},
		{strings.Repeat("1", 64), 2, math.MaxUint64, 0, api.OK},
		{"3w5e11264sgsf", 36, math.MaxUint64, 0, api.OK},
		{"18446744073709551616", 10, 0, 0, api.ErrGreat},
		{"18446744073709551620", 10, 0, 0, api.ErrGreat},
		{"00018446744073709551616", 10, 0, 0, api.ErrGreat},
		{"10000000000000000", 16, 0, 0, api.ErrGreat},
		{"1" + strings.Repeat("0", 64), 2, 0, 0, api.ErrGreat},
		{"3w5e11264sgsg", 36, 0, 0, api.ErrGreat},
		{strings.Repeat("9", 5000), 10, 0, 0, api.ErrGreat},

		// A digit that is none is named ahead of a number that is too great.
		{most + "0x", 10, 0, 21, api.ErrDigit},
		{strings.Repeat("f", 300) + "g", 16, 0, 300, api.ErrDigit},
	} {
		n, at, e := Number(c.s, c.base)
		if n != c.n || at != c.at || e != c.e {
			t.Errorf("Number(%.40q, %d) = %d, %d, %d, want %d, %d, %d", c.s, c.base, n, at, e, c.n, c.at, c.e)
		}
	}
}

func TestNumberToWrongBases(t *testing.T) {
	for _, base := range wrongBases() {
		for _, s := range []string{"", "0", "10", "!", "1!", strings.Repeat("9", 100)} {
			if n, at, e := Number(s, base); n != 0 || at != 0 || e != api.ErrBase {
				t.Errorf("Number(%q, %d) = %d, %d, %d, want 0, 0, ErrBase", s, base, n, at, e)
			}
		}
	}
}

func TestNumberOfEachByte(t *testing.T) {
	for base := 2; base <= 36; base++ {
		for b := range 256 {
			n, at, e := Number("1"+string([]byte{byte(b)}), base)
			d := wantDigit(byte(b), base)
			if d < 0 && (n != 0 || at != 1 || e != api.ErrDigit) {
				t.Errorf("byte %d to the base %d: %d, %d, %d, want ErrDigit at 1", b, base, n, at, e)
			}
			if d >= 0 && (n != uint64(base+d) || at != 0 || e != api.OK) {
				t.Errorf("byte %d to the base %d: %d, %d, %d, want %d", b, base, n, at, e, base+d)
			}
		}
	}
}

// Numbers about the greatest one, held against numbers of any size.
func TestNumberAtTheLimit(t *testing.T) {
	for base := 2; base <= 36; base++ {
		great := new(big.Int).SetUint64(math.MaxUint64)
		for off := int64(-40); off <= 40; off++ {
			want := new(big.Int).Add(great, big.NewInt(off))
			s := want.Text(base)
			n, at, e := Number(s, base)
			if off > 0 && (n != 0 || at != 0 || e != api.ErrGreat) {
				t.Errorf("Number(%q, %d) = %d, %d, %d, want ErrGreat", s, base, n, at, e)
			}
			if off <= 0 && (n != want.Uint64() || at != 0 || e != api.OK) {
				t.Errorf("Number(%q, %d) = %d, %d, %d, want %s", s, base, n, at, e, want)
			}
		}
	}
}

func someNumbers() []uint64 {
	l := []uint64{math.MaxUint64, math.MaxUint64 - 1, 123456789, 10000000000000000000}
	for n := range uint64(300) {
		l = append(l, n)
	}
	for i := range 64 {
		l = append(l, 1<<i, 1<<i-1, 1<<i+1)
	}
	return l
}

func TestPrint(t *testing.T) {
	for _, c := range []struct {
		n    uint64
		base int
		want string
	}{
		{0, 2, "0"}, {0, 36, "0"}, {1, 2, "1"}, {255, 16, "ff"}, {255, 2, "11111111"}, {35, 36, "z"}, {36, 36, "10"},
		{math.MaxUint64, 10, "18446744073709551615"}, {math.MaxUint64, 16, "ffffffffffffffff"},
		{math.MaxUint64, 2, strings.Repeat("1", 64)}, {math.MaxUint64, 36, "3w5e11264sgsf"},
	} {
		if got, e := Print(c.n, c.base); got != c.want || e != api.OK {
			t.Errorf("Print(%d, %d) = %q, %d, want %q", c.n, c.base, got, e, c.want)
		}
	}
	for base := 2; base <= 36; base++ {
		for _, n := range someNumbers() {
			want := new(big.Int).SetUint64(n).Text(base)
			if got, e := Print(n, base); got != want || e != api.OK {
				t.Errorf("Print(%d, %d) = %q, %d, want %q", n, base, got, e, want)
			}
		}
	}
}

func TestPrintToWrongBases(t *testing.T) {
	for _, base := range wrongBases() {
		for _, n := range []uint64{0, 1, math.MaxUint64} {
			if s, e := Print(n, base); s != "" || e != api.ErrBase {
				t.Errorf("Print(%d, %d) = %q, %d, want ErrBase", n, base, s, e)
			}
		}
	}
}

// Promise 1.5, of numbers.
func TestNumberOfPrint(t *testing.T) {
	for base := 2; base <= 36; base++ {
		for _, n := range someNumbers() {
			s, _ := Print(n, base)
			for _, text := range []string{s, strings.ToUpper(s), "000" + s} {
				if got, at, e := Number(text, base); got != n || at != 0 || e != api.OK {
					t.Errorf("Number(%q, %d) = %d, %d, %d, want %d", text, base, got, at, e, n)
				}
			}
		}
	}
}

func TestHex(t *testing.T) {
	const digits = "0123456789ABCDEF"
	for b := range 256 {
		want := digits[b/16:b/16+1] + digits[b%16:b%16+1]
		if got := Hex(byte(b)); got != want {
			t.Errorf("Hex(%d) = %q, want %q", b, got, want)
		}
	}
	for b, want := range map[byte]string{0: "00", 10: "0A", 15: "0F", 16: "10", 127: "7F", 255: "FF"} {
		if got := Hex(b); got != want {
			t.Errorf("Hex(%d) = %q, want %q", b, got, want)
		}
	}
}
