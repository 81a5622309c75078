package digits

import (
	"math/big"
	"slices"
	"strconv"
	"strings"
	"testing"

	"postern/api"
)

// Promise 6.9: Normal by name, powers beyond a million among them.
func TestNormal(t *testing.T) {
	nines, noughts := strings.Repeat("9", 1190), strings.Repeat("0", 1190)
	for s, want := range map[string]string{
		"-0012.500e3": "-125e2", "0": "0e0", "-0": "-0e0", "+0": "0e0", "0.000": "0e0", "-.0e5": "-0e0", "0e" + nines: "0e0", "-0e-" + nines: "-0e0", "0e1000001": "0e0", "1": "1e0", "+1": "1e0", "-1": "-1e0", "10": "1e1", "100.": "1e2", "0.1": "1e-1", ".5": "5e-1", "0.050": "5e-2", "1.0": "1e0", "12.34": "1234e-2", "1200.0034": "12000034e-4",
		"1e5": "1e5", "1E+5": "1e5", "1e-5": "1e-5", "1.5e1": "15e0", "100e-2": "1e0", "007e007": "7e7", "1e-0": "1e0", "1e+00": "1e0", "inf": "inf", "+inf": "inf", "-inf": "-inf", "nan": "nan", "+nan": "nan", "-nan": "nan",
		"1e999999": "1e999999", "1e1000000": "1e1000000", "1e1000001": "1e1000000", "1e2000000": "1e1000000", "1e-999999": "1e-999999", "1e-1000000": "1e-1000000", "1e-1000001": "1e-1000000", "-1e-1000001": "-1e-1000000", "-25e" + nines: "-25e1000000", "25e-" + nines: "25e-1000000",
		"10e999999": "1e1000000", "10e1000000": "1e1000000", "1.5e1000001": "15e1000000", "1.5e1000002": "15e1000000", "1.5e1000000": "15e999999", "1.5e-999999": "15e-1000000", "1.5e-1000000": "15e-1000000", "10e-1000001": "1e-1000000", "100e-1000001": "1e-999999",
		"1e" + noughts + "7": "1e7", noughts + "7": "7e0", "7" + noughts: "7e1190", "." + noughts + "7": "7e-1191", "." + noughts + "7e1191": "7e0", nines: nines + "e0", nines + ".5": nines + "5e-1", "1e100000000": "1e1000000", "1e-4294967296": "1e-1000000", "1e18446744073709551616": "1e1000000",
	} {
		if text, at, e := Normal(s); text != want || at != 0 || e != api.OK {
			t.Errorf("Normal(%.60q): %.60q, %d, %d, not %.60q", s, text, at, e, want)
		}
	}
}

// Promise 6.9: texts of all manners say the same number as Normal tells, in digits without noughts at both ends.
func TestNormalOfMany(t *testing.T) {
	s := source(9)
	for range 3000 {
		text := s.decimal(40, 300)
		normal, at, e := Normal(text)
		size := strings.TrimPrefix(normal, "-")
		d, k, ok := strings.Cut(size, "e")
		n, err := strconv.Atoi(k)
		switch {
		case at != 0 || e != api.OK || !ok || err != nil || strconv.Itoa(n) != k:
			t.Errorf("Normal(%q): %q, %d, %d", text, normal, at, e)
		case (text[0] == '-') != (normal[0] == '-'), fraction(normal).Cmp(fraction(text)) != 0:
			t.Errorf("Normal(%q): %q", text, normal)
		case size != "0e0" && strings.Trim(d, "0") != d, fraction(text).Sign() == 0 && size != "0e0":
			t.Errorf("Normal(%q): %q", text, normal)
		}
		if again, _, _ := Normal(normal); again != normal {
			t.Errorf("Normal of %q: %q", normal, again)
		}
	}
}

// rising are texts that say more and more; those of one list say the same.
func rising() [][]string {
	nines, noughts := strings.Repeat("9", 1150), strings.Repeat("0", 1150)
	one := "1" + noughts // nines and one more
	return [][]string{
		{"-inf"},
		{"-1e" + one, "-10e" + nines, "-.1e" + one[:len(one)-1] + "1", "-1000e" + nines[:1149] + "7"},
		{"-1e" + nines}, {"-2e4000000"}, {"-1e4000000", "-10e3999999"}, {"-1e400"}, {"-9007199254740993.1"}, {"-9007199254740993"}, {"-2"}, {"-1.5", "-15e-1"}, {"-1." + noughts + "1"}, {"-1", "-1e0", "-1." + noughts, "-0.1e1"}, {"-0.5"}, {"-1e-400", "-10e-401"}, {"-1e-" + nines},
		{"-1e-" + one, "-.1e-" + nines},
		{"0", "-0", "+0", "0.0", "-0e5", "0e" + nines, "-0e-" + nines, "." + noughts, "-" + noughts},
		{"1e-" + one, "10e-" + one[:len(one)-1] + "1", ".1e-" + nines, ".001e-" + nines[:1149] + "7"}, {"1e-" + nines}, {"1.5e-" + nines, "15e-" + one}, {"2e-" + nines},
		{"1e-3000000"}, {"1e-2000000"}, {"2e-2000000", "20e-2000001"}, {"1e-324"}, {"2e-324"}, {"1e-5", "0.00001", ".1e-4"}, {"0.1", "1e-1", "+0.1", "0.10e0", ".1", "1" + noughts + "e-1151", "1e-01"}, {"0.1" + noughts + "1"}, {"0.11"}, {"0.2"}, {"0.95"}, {"0." + nines}, {"1", "+1.0", "1e-" + noughts}, {"1." + noughts + "1"},
		{"9"}, {"9.5"}, {"10", "1e1", "100e-1", "." + noughts + "1e1152"}, {"11"}, {"99"}, {"100", "1e2"}, {"101"}, {"9007199254740992"}, {"9007199254740993"}, {"1" + noughts, "1e1150"}, {"2e1150"}, {nines + "e1"}, {"1e1151"}, {"1e2000000"}, {"1e3000000"}, {"1e3000001", "10e3000000"},
		{"1e99999999"}, {"1e100000000", "10e99999999", "0.1e100000001"}, {"1e100000001"}, {"1e999999999", "10e999999998"}, {"1e1000000000"}, {"1e2147483647"}, {"1e2147483648"}, {"1e4294967297"}, {"1e9223372036854775807", "10e9223372036854775806"}, {"1e9223372036854775808", "10e9223372036854775807"}, {"1e18446744073709551616"}, {"1e18446744073709551617", "0.1e18446744073709551618"},
		{"1e" + nines[:1149] + "8"}, {"1.5e" + nines[:1149] + "8", "15e" + nines[:1149] + "7"}, {"1e" + nines, "10e" + nines[:1149] + "8", ".01e" + one[:len(one)-1] + "1"}, {"9.9e" + nines}, {"1e" + one, "10e" + nines, "1000e" + nines[:1149] + "7", "+1.0e+00" + one}, {"2e" + one},
		{"inf", "+inf"},
	}
}

// Promise 6.9: Compare of all pairs; and 6.10: it is an order, and Parse goes along with it.
func TestCompare(t *testing.T) {
	var l []string
	var places []int
	for i, same := range rising() {
		for _, s := range same {
			l, places = append(l, s), append(places, i)
		}
	}
	for i, a := range l {
		for j, b := range l {
			want := big.NewInt(int64(places[i])).Cmp(big.NewInt(int64(places[j])))
			if n, e := Compare(a, b); n != want || e != api.OK {
				t.Errorf("Compare(%.60q, %.60q): %d, %d, not %d", a, b, n, e, want)
			}
			if i == j+1 {
				x, _, _ := Parse(b)
				if y, _, _ := Parse(a); x > y {
					t.Errorf("%.60q is read as %v, and %.60q as %v", b, x, a, y)
				}
			}
		}
	}
}

// Promise 6.9: Compare by exact numbers; and 6.10: an order.
func TestCompareOfMany(t *testing.T) {
	s := source(10)
	var l []string
	for i := range 150 {
		text := s.decimal(1+i%20, 1+i%10)
		normal, _, _ := Normal(text)
		l = append(l, text, normal)
	}
	for _, a := range l {
		x, _, _ := Parse(a)
		for _, b := range l {
			n, e := Compare(a, b)
			if n != fraction(a).Cmp(fraction(b)) || e != api.OK {
				t.Fatalf("Compare(%q, %q): %d, %d", a, b, n, e)
			}
			if y, _, _ := Parse(b); n <= 0 && x > y {
				t.Fatalf("%q is read as %v, and %q as %v", a, x, b, y)
			}
		}
	}
	sorted := slices.Clone(l)
	slices.SortFunc(sorted, func(a, b string) int {
		n, _ := Compare(a, b)
		return n
	})
	for i := range sorted {
		for j := range i {
			if n, _ := Compare(sorted[j], sorted[i]); n > 0 {
				t.Fatalf("%q stands ahead of %q", sorted[j], sorted[i])
			}
		}
	}
}

// Promise 6.9: texts that can't be compared.
func TestCompareFaults(t *testing.T) {
	long := strings.Repeat("1", api.MaxDecimal+1)
	wrong := []string{"", "x", "1e", ".", "-", "in", "infinity", "nan", "-nan", "+nan", "na", long, long + "x", "0x1p0", " 1"}
	for _, a := range wrong {
		for _, b := range append([]string{"0", "1", "-1.5e5", "inf", "-inf", long[1:]}, wrong...) {
			for _, pair := range [][2]string{{a, b}, {b, a}} {
				if n, e := Compare(pair[0], pair[1]); n != 0 || e != api.ErrDecimal {
					t.Errorf("Compare(%.20q, %.20q): %d, %d", pair[0], pair[1], n, e)
				}
			}
		}
	}
	for _, c := range []struct {
		a, b string
		want int
	}{{"-0", "0", 0}, {"0", "-0", 0}, {"inf", "inf", 0}, {"-inf", "-inf", 0}, {"inf", "-inf", 1}, {"-inf", "inf", -1}, {"0.1", "1e-1", 0}, {"-inf", "-1", -1}, {"1e2000000", "1e3000000", -1}, {"inf", "1e99999999999999999999", 1}, {"-1e99999999999999999999", "-inf", 1}, {"inf", "0", 1}, {"0", "inf", -1}, {"-inf", "-0", -1}, {long[1:], long[1:], 0}, {long[1:], long[2:], 1}} {
		if n, e := Compare(c.a, c.b); n != c.want || e != api.OK {
			t.Errorf("Compare(%.20q, %.20q): %d, %d, not %d", c.a, c.b, n, e, c.want)
		}
	}
}
