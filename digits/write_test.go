package digits

import (
	"math"
	"math/big"
	"strconv"
	"strings"
	"testing"

	"postern/api"
)

// Promise 6.2: Exact.
func TestExact(t *testing.T) {
	for x, want := range map[float64]string{
		0.1: "0.1000000000000000055511151231257827021181583404541015625", 1: "1", -1: "-1", 0.5: "0.5", -2.25: "-2.25", 10: "10", 1e22: "10000000000000000000000", 1e23: "99999999999999991611392", 100.5: "100.5", 0x1p-20: "0.00000095367431640625", 0: "0",
		infinity: "inf", -infinity: "-inf", 1 << 60: "1152921504606846976", 1<<52 + 0.5: "4503599627370496", 1<<51 + 0.5: "2251799813685248.5",
	} {
		if s := Exact(x); s != want {
			t.Errorf("Exact(%v): %q, not %q", x, s, want)
		}
	}
	if s := Exact(below0); s != "-0" {
		t.Error("Exact(-0):", s)
	}
	for _, x := range floats(2000) {
		if s := Exact(x); s != wantExact(x) {
			t.Errorf("Exact(%v): %q, not %q", x, s, wantExact(x))
		}
	}
	if s := Exact(least); len(s) != 1076 || !strings.HasSuffix(s, "625") || Exact(-least) != "-"+s {
		t.Error("Exact of the least one:", s)
	}
}

// Promise 6.3 and the chapter's examples: Shortest and its layout, at its borders: e at -6, -5, 0, 1, 21 and 22.
func TestShortest(t *testing.T) {
	for x, want := range map[float64]string{
		0.1: "0.1", 1e21: "1e+21", 123456789012345680000: "123456789012345680000", 0.000001: "0.000001", 1e-7: "1e-7", 5e-324: "5e-324", 16777216: "16777216",
		1.5e-7: "1.5e-7", 9.999e-7: "9.999e-7", 1.5e-6: "0.0000015", 1.25e-5: "0.0000125", 0.15: "0.15", 0.9999: "0.9999", 0.01: "0.01", 1: "1", 1.5: "1.5", 9: "9", 10: "10", 15: "15", 12.5: "12.5", 100: "100",
		1e20: "100000000000000000000", 1.5e20: "150000000000000000000", 999999999999999868928: "999999999999999900000", 1.5e21: "1.5e+21", 1e22: "1e+22", 1.2345678901234568e22: "1.2345678901234568e+22", 123456789012345.67: "123456789012345.67",
		0: "0", infinity: "inf", -infinity: "-inf", -0.1: "-0.1", -1e21: "-1e+21", -1e-7: "-1e-7", -5e-324: "-5e-324", -123: "-123", most: "1.7976931348623157e+308", 0x1p-1022: "2.2250738585072014e-308", 0x1p-1022 - least: "2.225073858507201e-308",
		1e100: "1e+100", 1e-100: "1e-100", 2e-5: "0.00002", 1e23: "1e+23", 0x1p53: "9007199254740992", 0.3: "0.3", 0.30000000000000004: "0.30000000000000004", 2 * least: "1e-323", 3 * least: "1.5e-323",
	} {
		if s := Shortest(x); s != want {
			t.Errorf("Shortest(%v): %q, not %q", x, s, want)
		}
	}
	if s := Shortest(below0); s != "-0" {
		t.Error("Shortest(-0):", s)
	}
	for _, b := range []uint64{0x7ff8000000000000, 0xfff8000000000000, 0x7ff0000000000001, 0xffffffffffffffff} {
		if s := Shortest(math.Float64frombits(b)); s != "nan" {
			t.Errorf("Shortest of %x: %q", b, s)
		}
	}
}

// Promise 6.3: Shortest32.
func TestShortest32(t *testing.T) {
	for x, want := range map[float32]string{
		0.1: "0.1", 1: "1", 16777216: "16777216", 33554432: "33554432", 1e10: "10000000000", least32: "1e-45", 2 * least32: "3e-45", most32: "3.4028235e+38", 0x1p-126: "1.1754944e-38", -0.5: "-0.5", 1e-6: "0.000001", 1e-7: "1e-7", 1e20: "100000000000000000000", 1e21: "1e+21", 0.3: "0.3",
		0x1p21 + 0.25: "2097152.2", 0x1p21 + 0.75: "2097152.8", 0: "0", float32(infinity): "inf", float32(-infinity): "-inf", 9.8e-45: "1e-44",
	} {
		if s := Shortest32(x); s != want {
			t.Errorf("Shortest32(%v): %q, not %q", x, s, want)
		}
	}
	if s := Shortest32(math.Float32frombits(1 << 31)); s != "-0" {
		t.Error("Shortest32(-0):", s)
	}
	for _, b := range []uint32{0x7fc00000, 0xffc00000, 0x7f800001, 0xffffffff} {
		if s := Shortest32(math.Float32frombits(b)); s != "nan" {
			t.Errorf("Shortest32 of %x: %q", b, s)
		}
	}
}

// checkShortest and checkShortest32 look at all decimals that are rounded to a float.
func checkShortest(t *testing.T, x float64) {
	t.Helper()
	want := wantShortest(rat64(x), func(r *big.Rat) bool {
		y, _ := r.Float64()
		return y == x
	})
	if s := Shortest(x); s != want {
		t.Errorf("Shortest(%v): %q, not %q", x, s, want)
	}
}

func checkShortest32(t *testing.T, x float32) {
	t.Helper()
	want := wantShortest(rat64(float64(x)), func(r *big.Rat) bool {
		y, _ := r.Float32()
		return y == x
	})
	if s := Shortest32(x); s != want {
		t.Errorf("Shortest32(%v): %q, not %q", x, s, want)
	}
}

// Promise 6.3: edges, and powers of two, where the floats below are nearer than those above.
func TestShortestOfAllDecimals(t *testing.T) {
	for _, x := range finite(floats(200)) {
		if x > 0 {
			checkShortest(t, x)
		}
	}
	for k := -1074; k <= 1023; k++ {
		if x := math.Ldexp(1, k); k%8 == 0 || k < -1015 || k > -64 && k < 96 {
			checkShortest(t, x)
		}
	}
	for k := -149; k <= 127; k++ {
		for _, x := range []float32{float32(math.Ldexp(1, k)), math.Nextafter32(float32(math.Ldexp(1, k)), 0), math.Nextafter32(float32(math.Ldexp(1, k)), 1e38)} {
			if x > 0 {
				checkShortest32(t, x)
			}
		}
	}
	s := source(11)
	for range 500 {
		if x := s.float32(); x > 0 {
			checkShortest32(t, x)
		}
	}
}

// Promise 6.3: decimals of equal nearness: the one whose digits are even.
func TestEquallyNear(t *testing.T) {
	for x, want := range map[float64]string{
		0x1p50 + 0.25: "1125899906842624.2", 0x1p50 + 0.75: "1125899906842624.8", 0x1p50 + 1.25: "1125899906842625.2", 0x1p50 + 1.75: "1125899906842625.8", 0x1p49 + 0.25: "562949953421312.2", 0x1p49 + 0.75: "562949953421312.8",
	} {
		if s := Shortest(x); s != want {
			t.Errorf("Shortest(%v): %q, not %q", x, s, want)
		}
		checkShortest(t, x)
	}
	// Of these two decimals with as few digits one alone is nearest, though the other one's digits are even.
	for _, x := range []float64{0x1p49 + 0.125, 0x1p49 + 0.375, 0x1p47 + 0.0625, 0x1p46 + 0.03125} {
		for i := range 32 {
			checkShortest(t, x+float64(i)/32)
		}
	}
}

// Promises 6.3 and 6.6: all powers of two and many floats more, against the library; and how many digits there are at most.
func TestShortestOfMany(t *testing.T) {
	check := func(x float64) {
		t.Helper()
		d, e := shortestOf(strconv.FormatFloat(x, 'e', -1, 64))
		if s := Shortest(x); s != wantLaid(d, e) {
			t.Errorf("Shortest(%v): %q, not %q", x, s, wantLaid(d, e))
		}
		if len(d) > 17 {
			t.Error(x, "has too many digits")
		}
	}
	for k := -1074; k <= 1023; k++ {
		x := math.Ldexp(1, k)
		check(x)
		check(math.Nextafter(x, infinity))
		if k > -1074 {
			check(math.Nextafter(x, 0))
		}
	}
	s := source(12)
	for range 20000 {
		if x := math.Abs(s.float()); x > 0 {
			check(x)
		}
		if x := s.float32(); x > 0 {
			d, e := shortestOf(strconv.FormatFloat(float64(x), 'e', -1, 32))
			if s := Shortest32(x); s != wantLaid(d, e) || len(d) > 9 {
				t.Errorf("Shortest32(%v): %q, not %q", x, s, wantLaid(d, e))
			}
		}
	}
}

// Promise 6.4: Fixed by name: equally near ones, carries through all nines, noughts with a sign.
func TestFixed(t *testing.T) {
	for _, c := range []struct {
		x      float64
		places int
		want   string
	}{
		{2.5, 0, "2"}, {0.125, 2, "0.12"}, {-0.001, 2, "-0.00"}, {0.375, 2, "0.38"}, {3.5, 0, "4"}, {0.5, 0, "0"}, {1.5, 0, "2"}, {-0.5, 0, "-0"}, {-1.5, 0, "-2"}, {0.25, 1, "0.2"}, {0.75, 1, "0.8"}, {0.75, 0, "1"}, {0.5 + 0x1p-53, 0, "1"}, {0.5 - 0x1p-54, 0, "0"},
		{9.5, 0, "10"}, {99.5, 0, "100"}, {999.96875, 1, "1000.0"}, {0.96875, 1, "1.0"}, {0.99951171875, 3, "1.000"}, {-9.99609375, 2, "-10.00"}, {8.5, 0, "8"}, {0.05, 1, "0.1"}, {0.0625, 1, "0.1"}, {0.03125, 1, "0.0"}, {0.0078125, 1, "0.0"}, {0.0001, 0, "0"}, {0.0001, 3, "0.000"}, {0.0005, 3, "0.001"}, {0.00048828125, 3, "0.000"},
		{0, 0, "0"}, {0, 3, "0.000"}, {below0, 0, "-0"}, {below0, 2, "-0.00"}, {1, 0, "1"}, {1, 2, "1.00"}, {-least, 3, "-0.000"}, {least, 0, "0"}, {123.456, 1, "123.5"}, {1e22, 2, "10000000000000000000000.00"}, {100, 0, "100"}, {0x1p60, 1, "1152921504606846976.0"},
		{infinity, 5, "inf"}, {-infinity, 0, "-inf"}, {math.NaN(), 400, "nan"}, {math.Float64frombits(0xfff8000000000001), 0, "nan"},
		{0.1, 60, "0.100000000000000005551115123125782702118158340454101562500000"}, {0.5, 400, "0.5" + strings.Repeat("0", 399)}, {least, 400, "0." + strings.Repeat("0", 323) + "49406564584124654417656879286822137236505980261432476442558568250067550727021"},
	} {
		if s, e := Fixed(c.x, c.places); s != c.want || e != api.OK {
			t.Errorf("Fixed(%v, %d): %q, %d, not %q", c.x, c.places, s, e, c.want)
		}
	}
	for _, places := range []int{-1, -2, 401, 402, 1000, math.MaxInt, math.MinInt, 1 << 32} {
		for _, x := range []float64{0, 1, 0.1, infinity, math.NaN()} {
			if s, e := Fixed(x, places); s != "" || e != api.ErrPlaces {
				t.Errorf("Fixed(%v, %d): %q, %d", x, places, s, e)
			}
		}
	}
}

// nameOf is what the chapter calls a float that is infinite or no number.
func nameOf(x float64) (string, bool) {
	switch {
	case x != x:
		return "nan", true
	case math.IsInf(x, 1):
		return "inf", true
	case math.IsInf(x, -1):
		return "-inf", true
	}
	return "", false
}

// Promise 6.4: floats of all kinds and places from 0 to 400.
func TestFixedOfMany(t *testing.T) {
	for i, x := range floats(1000) {
		for _, places := range []int{0, 1, 2, 3, i % 30, i % 401, 323, 324, 399, 400} {
			want, named := nameOf(x)
			if !named {
				want = strconv.FormatFloat(x, 'f', places, 64)
			}
			if s, e := Fixed(x, places); s != want || e != api.OK {
				t.Errorf("Fixed(%v, %d): %q, %d, not %q", x, places, s, e, want)
			}
		}
	}
}

// Promise 6.4: rounded to the nearest, by exact numbers.
func TestFixedIsNearest(t *testing.T) {
	for i, x := range finite(floats(200)) {
		places := i % 20
		s, _ := Fixed(x, places)
		unit := new(big.Rat).Quo(fraction(s), ten(-places))
		off := new(big.Rat).Sub(new(big.Rat).Quo(rat64(x), ten(-places)), unit)
		c := off.Abs(off).Cmp(big.NewRat(1, 2))
		if !unit.IsInt() || c > 0 || c == 0 && unit.Num().Bit(0) == 1 {
			t.Errorf("Fixed(%v, %d): %q", x, places, s)
		}
	}
}

// Promise 6.8: Scientific and Significant by name.
func TestScientific(t *testing.T) {
	for _, c := range []struct {
		x                       float64
		digits                  int
		scientific, significant string
	}{
		{0.1, 3, "1.00e-1", "0.1"}, {9.99, 2, "1.0e+1", "10"}, {9.99, 3, "9.99e+0", "9.99"}, {1, 1, "1e+0", "1"}, {0, 1, "0e+0", "0"}, {0, 3, "0.00e+0", "0"}, {below0, 1, "-0e+0", "-0"}, {below0, 2, "-0.0e+0", "-0"},
		{2.5, 1, "2e+0", "2"}, {3.5, 1, "4e+0", "4"}, {-2.5, 1, "-2e+0", "-2"}, {9.5, 1, "1e+1", "10"}, {8.5, 1, "8e+0", "8"}, {0.125, 2, "1.2e-1", "0.12"}, {0.375, 2, "3.8e-1", "0.38"}, {999.96875, 4, "1.000e+3", "1000"}, {0.99951171875, 3, "1.00e+0", "1"}, {-99.75, 2, "-1.0e+2", "-100"},
		{123456, 2, "1.2e+5", "120000"}, {125, 2, "1.2e+2", "120"}, {135, 2, "1.4e+2", "140"}, {100, 5, "1.0000e+2", "100"}, {1e21, 3, "1.00e+21", "1e+21"}, {1e20, 3, "1.00e+20", "100000000000000000000"}, {1.5e-7, 1, "1e-7", "1e-7"}, {9.6e-7, 1, "1e-6", "0.000001"}, {9.6e20, 1, "1e+21", "1e+21"}, {9.4e20, 1, "9e+20", "900000000000000000000"}, {1.5e-7, 2, "1.5e-7", "1.5e-7"}, {1.25e-6, 3, "1.25e-6", "0.00000125"},
		{infinity, 1, "inf", "inf"}, {-infinity, 800, "-inf", "-inf"}, {math.NaN(), 7, "nan", "nan"}, {math.Float64frombits(0xfff8000000000001), 7, "nan", "nan"}, {least, 1, "5e-324", "5e-324"}, {least, 2, "4.9e-324", "4.9e-324"}, {-most, 5, "-1.7977e+308", "-1.7977e+308"}, {0.5, 800, "5." + strings.Repeat("0", 799) + "e-1", "0.5"},
		{0.1, 20, "1.0000000000000000555e-1", "0.10000000000000000555"}, {0.1, 18, "1.00000000000000006e-1", "0.100000000000000006"}, {0.1, 17, "1.0000000000000001e-1", "0.10000000000000001"},
	} {
		if s, e := Scientific(c.x, c.digits); s != c.scientific || e != api.OK {
			t.Errorf("Scientific(%v, %d): %q, %d, not %q", c.x, c.digits, s, e, c.scientific)
		}
		if s, e := Significant(c.x, c.digits); s != c.significant || e != api.OK {
			t.Errorf("Significant(%v, %d): %q, %d, not %q", c.x, c.digits, s, e, c.significant)
		}
	}
	for _, digits := range []int{0, -1, 801, 802, 1 << 32, 1<<32 + 1, math.MaxInt, math.MinInt} {
		for _, x := range []float64{0, 1, 0.1, infinity, math.NaN()} {
			if s, e := Scientific(x, digits); s != "" || e != api.ErrPlaces {
				t.Errorf("Scientific(%v, %d): %q, %d", x, digits, s, e)
			}
			if s, e := Significant(x, digits); s != "" || e != api.ErrPlaces {
				t.Errorf("Significant(%v, %d): %q, %d", x, digits, s, e)
			}
		}
	}
}

// Promise 6.8: floats of all kinds and digits from 1 to 800; and 6.10: Parse of Scientific(x, 17) is x.
func TestScientificOfMany(t *testing.T) {
	for i, x := range floats(1000) {
		for _, digits := range []int{1, 2, 3, 1 + i%25, 1 + i%800, 766, 767, 768, 799, 800} {
			scientific, named := nameOf(x)
			significant := scientific
			if !named {
				text := strconv.FormatFloat(x, 'e', digits-1, 64)
				scientific = shortPower(text)
				significant = significantOf(text, x)
			}
			if s, e := Scientific(x, digits); s != scientific || e != api.OK {
				t.Errorf("Scientific(%v, %d): %q, %d, not %q", x, digits, s, e, scientific)
			}
			if s, e := Significant(x, digits); s != significant || e != api.OK {
				t.Errorf("Significant(%v, %d): %q, %d, not %q", x, digits, s, e, significant)
			}
		}
		s, _ := Scientific(x, 17)
		is(t, s, x)
		s, _ = Significant(x, 17)
		is(t, s, x)
	}
}

// significantOf is what the library tells with a power of ten, laid out.
func significantOf(text string, x float64) string {
	d, e := shortestOf(strings.TrimPrefix(text, "-"))
	s := "0"
	if x != 0 {
		s = wantLaid(d, e)
	}
	if math.Signbit(x) {
		return "-" + s
	}
	return s
}
