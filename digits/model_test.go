package digits

import (
	"math"
	"math/big"
	"regexp"
	"slices"
	"strconv"
	"strings"
)

var (
	decimalText = regexp.MustCompile(`^[+-]?(inf|nan|([0-9]+(\.[0-9]*)?|\.[0-9]+)([eE][+-]?[0-9]+)?)$`)
	hexText     = regexp.MustCompile(`^[+-]?0[xX]([0-9a-fA-F]+(\.[0-9a-fA-F]*)?|\.[0-9a-fA-F]+)[pP][+-]?[0-9]+$`)

	// decimalEnds and hexEnds are what makes a text of any beginning of one.
	decimalEnds = []string{"", "0", "nf", "f", "an", "n"}
	hexEnds     = []string{"", "0", "p0", "0p0", "x0p0", "0x0p0"}
)

const (
	least   = math.SmallestNonzeroFloat64
	most    = math.MaxFloat64
	least32 = math.SmallestNonzeroFloat32
	most32  = math.MaxFloat32
)

var (
	infinity = math.Inf(1)
	below0   = math.Copysign(0, -1)
)

// isBeginning tells whether some end makes a text of s.
func isBeginning(s string, whole *regexp.Regexp, ends []string) bool {
	return slices.ContainsFunc(ends, func(end string) bool { return whole.MatchString(s + end) })
}

// wantFault is the place of the first byte with which s is the beginning of no text, or its length; false, if it is one.
func wantFault(s string, whole *regexp.Regexp, ends []string) (int, bool) {
	if whole.MatchString(s) {
		return 0, false
	}
	for i := range len(s) {
		if !isBeginning(s[:i+1], whole, ends) {
			return i, true
		}
	}
	return len(s), true
}

// fraction is the number that a text says; its exponent is not great.
func fraction(s string) *big.Rat {
	r, ok := new(big.Rat).SetString(s)
	if !ok {
		panic(s)
	}
	return r
}

// rat64 is the number that a finite float is.
func rat64(x float64) *big.Rat { return new(big.Rat).SetFloat64(x) }

// middle is halfway between two numbers.
func middle(a, b *big.Rat) *big.Rat {
	sum := new(big.Rat).Add(a, b)
	return sum.Quo(sum, big.NewRat(2, 1))
}

// size64 and size32 are the numbers of floats by their bits; the infinite one counts as the next power of two.
func size64(b uint64) *big.Rat {
	if x := math.Float64frombits(b); x <= most {
		return rat64(x)
	}
	return new(big.Rat).SetInt(new(big.Int).Lsh(big.NewInt(1), 1024))
}

func size32(b uint64) *big.Rat {
	if x := math.Float32frombits(uint32(b)); x <= most32 {
		return rat64(float64(x))
	}
	return new(big.Rat).SetInt(new(big.Int).Lsh(big.NewInt(1), 128))
}

// wantBits is the bits of the float nearest to a number from 0 on, by halving what may be; of two equally near the one whose lowest bit is 0.
func wantBits(r *big.Rat, number func(uint64) *big.Rat, infinite uint64) uint64 {
	low, high := uint64(0), infinite
	if r.Cmp(number(high)) >= 0 {
		return high
	}
	for high-low > 1 {
		between := low + (high-low)/2
		if r.Cmp(number(between)) >= 0 {
			low = between
		} else {
			high = between
		}
	}
	switch c := r.Cmp(middle(number(low), number(high))); {
	case c > 0, c == 0 && low%2 == 1:
		return high
	}
	return low
}

// want64 and want32 are what Parse and Parse32 answer of a decimal text of digits whose exponent is not great.
func want64(s string) float64 {
	r := fraction(s)
	x := math.Float64frombits(wantBits(r.Abs(r), size64, math.Float64bits(infinity)))
	if s[0] == '-' {
		return math.Copysign(x, -1)
	}
	return x
}

func want32(s string) float32 {
	r := fraction(s)
	x := math.Float32frombits(uint32(wantBits(r.Abs(r), size32, uint64(math.Float32bits(float32(infinity))))))
	if s[0] == '-' {
		return -x
	}
	return x
}

// alike tells whether both have the same bits, or both are no numbers.
func alike(x, y float64) bool { return x != x && y != y || math.Float64bits(x) == math.Float64bits(y) }

func alike32(x, y float32) bool {
	return x != x && y != y || math.Float32bits(x) == math.Float32bits(y)
}

// inFull is a number from 0 on in decimal digits, all of them.
func inFull(r *big.Rat) string {
	if r.IsInt() {
		return r.Num().String()
	}
	// A number over a power of two has as many decimal places as that power.
	return r.FloatString(r.Denom().BitLen() - 1)
}

// wantExact goes by the words of promise 6.2.
func wantExact(x float64) string {
	switch {
	case x != x:
		return "nan"
	case math.Signbit(x):
		return "-" + wantExact(-x)
	case x > most:
		return "inf"
	}
	return inFull(rat64(x))
}

// wantLaid lays digits out by the chapter's words; the number is 0.d * 10^e.
func wantLaid(d string, e int) string {
	n := len(d)
	switch {
	case n <= e && e <= 21:
		return d + strings.Repeat("0", e-n)
	case 1 <= e && e <= 21:
		return d[:e] + "." + d[e:]
	case -5 <= e && e <= 0:
		return "0." + strings.Repeat("0", -e) + d
	}
	s := d[:1]
	if n > 1 {
		s += "." + d[1:]
	}
	if e-1 < 0 {
		return s + "e-" + strconv.Itoa(1-e)
	}
	return s + "e+" + strconv.Itoa(e-1)
}

// ten is a power of ten.
func ten(k int) *big.Rat {
	n := new(big.Int).Exp(big.NewInt(10), big.NewInt(int64(max(k, -k))), nil)
	if k < 0 {
		return new(big.Rat).SetFrac(big.NewInt(1), n)
	}
	return new(big.Rat).SetInt(n)
}

// candidate is d * 10^k.
type candidate struct {
	d *big.Int
	k int
}

func (c candidate) number() *big.Rat {
	r := new(big.Rat).SetInt(c.d)
	return r.Mul(r, ten(c.k))
}

func (c candidate) digits() int { return len(c.d.String()) }

// wantShortest is the shortest digits of a number above 0 that is a float, laid out; is tells which numbers are rounded to it. All decimals are looked at that are rounded to it and have about as few digits as may be.
func wantShortest(x *big.Rat, is func(*big.Rat) bool) string {
	var found []candidate
	first := len(new(big.Int).Quo(new(big.Int).Mul(x.Num(), ten(400).Num()), x.Denom()).String()) - 400
	for k, more := first+1, 2; more > 0; k-- {
		found = append(found, around(x, k, is)...)
		if len(found) > 0 {
			more--
		}
	}
	best := found[0]
	for _, c := range found[1:] {
		if better(c, best, x) {
			best = c
		}
	}
	return wantLaid(best.d.String(), best.digits()+best.k)
}

// around is all d * 10^k, without a 0 at the end of d, that are rounded to the float.
func around(x *big.Rat, k int, is func(*big.Rat) bool) []candidate {
	var found []candidate
	q := new(big.Rat).Quo(x, ten(k))
	floor := new(big.Int).Quo(q.Num(), q.Denom())
	for _, step := range []int64{-1, 1} {
		d := new(big.Int).Set(floor)
		if step > 0 {
			d.Add(d, big.NewInt(1))
		}
		for d.Sign() > 0 && is(candidate{d, k}.number()) {
			if !strings.HasSuffix(d.String(), "0") {
				found = append(found, candidate{new(big.Int).Set(d), k})
			}
			d.Add(d, big.NewInt(step))
		}
	}
	return found
}

func better(a, b candidate, x *big.Rat) bool {
	if a.digits() != b.digits() {
		return a.digits() < b.digits()
	}
	far := func(c candidate) *big.Rat {
		r := new(big.Rat).Sub(c.number(), x)
		return r.Abs(r)
	}
	if c := far(a).Cmp(far(b)); c != 0 {
		return c < 0
	}
	return a.d.Bit(0) == 0
}

// shortestOf is digits and e of what the library tells with a power of ten.
func shortestOf(s string) (string, int) {
	mantissa, power, _ := strings.Cut(s, "e")
	k, _ := strconv.Atoi(power)
	d := strings.TrimRight(strings.Replace(mantissa, ".", "", 1), "0")
	return d, k + 1
}

// shortPower is a text of the library's with no noughts ahead in its power.
func shortPower(s string) string {
	at := strings.LastIndexAny(s, "ep")
	if at < 0 {
		return s
	}
	return s[:at+2] + strings.TrimLeft(s[at+2:len(s)-1], "0") + s[len(s)-1:]
}

// source makes numbers that look like chance, the same ones each time.
type source uint64

func (s *source) bits() uint64 {
	*s += 0x9e3779b97f4a7c15
	z := uint64(*s)
	z = (z ^ z>>30) * 0xbf58476d1ce4e5b9
	z = (z ^ z>>27) * 0x94d049bb133111eb
	return z ^ z>>31
}

func (s *source) below(n int) int { return int(s.bits() % uint64(n)) }

// float is a finite float with any bits, or one of few digits.
func (s *source) float() float64 {
	switch s.below(4) {
	case 0:
		return float64(s.below(100000)) / math.Pow10(s.below(6))
	case 1:
		return math.Float64frombits(s.bits() >> (1 + s.below(62)))
	}
	for {
		if x := math.Float64frombits(s.bits()); math.Abs(x) <= most {
			return x
		}
	}
}

func (s *source) float32() float32 {
	for {
		if x := math.Float32frombits(uint32(s.bits())); x >= -most32 && x <= most32 {
			return x
		}
	}
}

// text is a text of bytes of an alphabet.
func (s *source) text(alphabet string, size int) string {
	l := make([]byte, size)
	for i := range l {
		l[i] = alphabet[s.below(len(alphabet))]
	}
	return string(l)
}

// decimal is a decimal text of digits whose power is at most so great in size.
func (s *source) decimal(size, power int) string {
	sign := []string{"", "+", "-"}[s.below(3)]
	digits := s.text("0123456789", 1+s.below(size))
	if s.below(3) == 0 {
		digits = s.text("09", 1+s.below(size))
	}
	if at := s.below(len(digits) + 1); s.below(3) > 0 {
		digits = digits[:at] + "." + digits[at:]
	}
	if s.below(3) == 0 {
		return sign + digits
	}
	n, ahead := s.below(2*power+1)-power, ""
	if n >= 0 {
		ahead = []string{"", "+", "0", "+00"}[s.below(4)]
	}
	return sign + digits + []string{"e", "E"}[s.below(2)] + ahead + strconv.Itoa(n)
}

// edges are the floats about which texts change their ways, with those beside them, of both signs.
func edges() []float64 {
	l := []float64{0, below0, infinity, -infinity, math.NaN(), math.Float64frombits(0xfff8000000000001), math.Float64frombits(0x7ff0000000000001)}
	some := []float64{least, 2 * least, 3 * least, 0x1p-1022 - least, 0x1p-1022, 0x1p-1021, least32, 0x1p-126, most32, 0x1p128, 0.1, 0.125, 0.25, 0.3, 0.5, 0.75, 1, 1.5, 2, 2.5, 3, 9.5, 9.99, 9.995, 10, 99.5, 0.095, 0.95, 0.995,
		0x1p23, 0x1p24, 0x1p50 + 0.25, 0x1p50 + 0.75, 0x1p49 + 0.25, 0x1p52, 0x1p53, 9007199254740993, 0x1p63, 0x1p64, 1e15, 1e16, 1e17, 1e22, 1e23, 123456789012345680000, 999999999999999868928, 1e100, 1e-100, 1e300, 1e308, 1e-308, 0x1p1023, most}
	for k := -9; k <= 25; k++ {
		some = append(some, math.Pow10(k), 1.5*math.Pow10(k), 9.5*math.Pow10(k), 1.2345678901234567*math.Pow10(k))
	}
	for _, x := range some {
		for _, y := range []float64{math.Nextafter(x, 0), x, math.Nextafter(x, infinity)} {
			l = append(l, y, -y)
		}
	}
	return l
}

// floats are the edges, powers of two, and many more of all exponents.
func floats(more int) []float64 {
	l := edges()
	for k := -1074; k <= 1023; k += 31 {
		l = append(l, math.Ldexp(1, k), -math.Ldexp(1.75, k))
	}
	s := source(6)
	for range more {
		l = append(l, s.float())
	}
	return l
}

// finite are those of a list that are numbers and not infinite.
func finite(l []float64) []float64 {
	return slices.DeleteFunc(slices.Clone(l), func(x float64) bool { return !(math.Abs(x) <= most) })
}
