package puny

import (
	"fmt"
	"math"
	"math/rand"
	"slices"
	"strings"
	"testing"

	"postern/api"
)

// with is Punycode's parameters with something changed.
func with(change func(*api.Boot)) api.Boot {
	p := punycode().Boot
	change(&p)
	return p
}

// Promise 14.5: Usual is Punycode's.
func TestUsual(t *testing.T) {
	if Usual() != (api.Boot{Base: 36, Least: 1, Most: 26, Skew: 38, Damp: 700, Bias: 72, First: 128, Between: '-'}) || Check(Usual()) != api.OK {
		t.Errorf("Usual: %v, %d", Usual(), Check(Usual()))
	}
}

// Promise 14.5: Check of each parameter at both its bounds and one beyond them.
func TestCheckAtTheBounds(t *testing.T) {
	for _, x := range []struct {
		what        string
		set         func(p *api.Boot, n int)
		least, most int
	}{
		{"Base", func(p *api.Boot, n int) { p.Base, p.Least, p.Most = n, 1, 1 }, 3, 36},
		{"Base with the usual Most", func(p *api.Boot, n int) { p.Base = n }, 28, 36},
		{"Most", func(p *api.Boot, n int) { p.Most = n }, 1, 34},
		{"Most with Least 0", func(p *api.Boot, n int) { p.Least, p.Most = 0, n }, 1, 34},
		{"Most with Base 3", func(p *api.Boot, n int) { p.Base, p.Least, p.Most = 3, 0, n }, 1, 1},
		{"Most with Least 7", func(p *api.Boot, n int) { p.Least, p.Most = 7, n }, 7, 34},
		{"Least", func(p *api.Boot, n int) { p.Least = n }, 0, 26},
		{"Least with Base 3", func(p *api.Boot, n int) { p.Base, p.Least, p.Most = 3, n, 1 }, 0, 1},
		{"Least and Most", func(p *api.Boot, n int) { p.Least, p.Most = n, n }, 1, 34},
		{"Skew", func(p *api.Boot, n int) { p.Skew = n }, 1, 10000},
		{"Damp", func(p *api.Boot, n int) { p.Damp = n }, 2, 10000},
		{"Bias", func(p *api.Boot, n int) { p.Bias = n }, 0, 10000},
		{"First", func(p *api.Boot, n int) { p.First = n }, 46, 0x10ffff},
		{"First with !", func(p *api.Boot, n int) { p.First, p.Between = n, '!' }, 34, 0x10ffff},
		{"First with ~", func(p *api.Boot, n int) { p.First, p.Between = n, '~' }, 127, 0x10ffff},
	} {
		for _, n := range []int{x.least, x.least + 1, (x.least + x.most) / 2, x.most - 1, x.most} {
			if p := with(func(p *api.Boot) { x.set(p, n) }); n >= x.least && n <= x.most && Check(p) != api.OK {
				t.Errorf("%s %d: %v may not be: %d", x.what, n, p, Check(p))
			}
		}
		for _, n := range []int{x.least - 1, x.most + 1, x.least - 2, x.most + 2, -x.most - 1, math.MinInt, math.MaxInt, math.MinInt + 1, -1 << 32, 1<<32 + x.least} {
			if p := with(func(p *api.Boot) { x.set(p, n) }); Check(p) != api.ErrBoot {
				t.Errorf("%s %d: %v may be: %d", x.what, n, p, Check(p))
			}
		}
	}
	if Check(api.Boot{}) != api.ErrBoot {
		t.Errorf("the zero value may be")
	}
}

// Promise 14.5: Check of every byte between, to every Base, with a First above it, the same, and below.
func TestCheckOfEveryBetween(t *testing.T) {
	for base := 3; base <= 36; base++ {
		for c := range 256 {
			digit := strings.Contains(alphabet[:base], lower(string([]byte{byte(c)})))
			for _, first := range []int{c - 1, c, c + 1, 34, 127, 128, 0x4e00} {
				p := api.Boot{Base: base, Least: 0, Most: 1, Skew: 38, Damp: 700, Bias: 72, First: first, Between: byte(c)}
				want := api.ErrBoot
				if c >= 33 && c <= 126 && c < first && !digit {
					want = api.OK
				}
				if Check(p) != want {
					t.Errorf("Check(%v): %d, not %d", p, Check(p), want)
				}
			}
		}
	}
}

// Promise 14.6: parameters that may not be go ahead of all else.
func TestByWrongParameters(t *testing.T) {
	for _, change := range []func(*api.Boot){
		func(p *api.Boot) { *p = api.Boot{} }, func(p *api.Boot) { p.Base = 2 }, func(p *api.Boot) { p.Base = 37 }, func(p *api.Boot) { p.Base = math.MinInt }, func(p *api.Boot) { p.Least = -1 }, func(p *api.Boot) { p.Most = 35 }, func(p *api.Boot) { p.Least, p.Most = 0, 0 },
		func(p *api.Boot) { p.Skew = 0 }, func(p *api.Boot) { p.Damp = 1 }, func(p *api.Boot) { p.Bias = -1 }, func(p *api.Boot) { p.First = 45 }, func(p *api.Boot) { p.First = 0x110000 }, func(p *api.Boot) { p.Between = 'a' }, func(p *api.Boot) { p.Between = 0 },
	} {
		p := with(change)
		for _, list := range [][]rune{nil, {97}, {252}, {97, -1}, {0xd800}} {
			s, at, e := EncodeBy(p, list)
			isText(t, fmt.Sprintf("EncodeBy(%v, %v)", p, list), s, at, e, "", 0, api.ErrBoot)
		}
		for _, text := range []string{"", "a-", "bcher-kva", "a\xff-", "b"} {
			l, at, e := DecodeBy(p, text)
			isList(t, fmt.Sprintf("DecodeBy(%v, %q)", p, text), l, at, e, nil, 0, api.ErrBoot)
		}
	}
}

// Promise 14.6: by hand, with a small Base, where each digit can be reckoned.
func TestBySmallBase(t *testing.T) {
	// With Least and Most 1 each digit but the last is 1 or 2, worth 1, 2, 4 and so on, and the last one is 0.
	p := api.Boot{Base: 3, Least: 1, Most: 1, Skew: 1, Damp: 2, Bias: 0, First: 128, Between: '-'}
	for n, digits := range []string{"a", "ba", "ca", "bba", "cba", "bca", "cca", "bbba"} {
		list := []rune{128 + rune(n)}
		s, at, e := EncodeBy(p, list)
		isText(t, fmt.Sprintf("EncodeBy %v", list), s, at, e, digits, 0, api.OK)
		l, at, e := DecodeBy(p, digits)
		isList(t, fmt.Sprintf("DecodeBy %q", digits), l, at, e, list, 0, api.OK)
		isListBy(t, model{p}, append(list, 'd'))
	}
	s, at, e := EncodeBy(p, []rune{128, 'd'})
	isText(t, "EncodeBy of both", s, at, e, "d-a", 0, api.OK)
	// d is no digit to the Base 3, great or small, nor is 0.
	for _, text := range []string{"d", "D", "0"} {
		l, at, e := DecodeBy(p, "ba"+text)
		isList(t, text, l, at, e, nil, 2, api.ErrDigits)
	}
	l, at, e := DecodeBy(p, "CBA")
	isList(t, "CBA", l, at, e, []rune{132}, 0, api.OK)
}

// Promise 14.6: with Least 0 a digit may be 0 and not the last one; w that becomes too great is told at its digit, though i is 0 still.
func TestByLeastNought(t *testing.T) {
	p := api.Boot{Base: 36, Least: 0, Most: 26, Skew: 38, Damp: 700, Bias: 10000, First: 128, Between: '-'}
	for _, x := range []struct {
		s  string
		at int
		e  api.Errno
	}{{"aaaaa", 5, api.ErrDigits}, {"aaaaaa", 5, api.ErrPuny}, {"aaaaaaa", 5, api.ErrPuny}, {"x-aaaaaa!", 7, api.ErrPuny}, {"aaaaa!", 5, api.ErrDigits}, {"bbbbbb", 5, api.ErrPuny}} {
		l, at, e := DecodeBy(p, x.s)
		isList(t, x.s, l, at, e, nil, x.at, x.e)
	}
	// What could be made, with hundreds of digits, could not be decoded.
	for _, list := range [][]rune{{128}, {252}, {97, 0x10ffff}} {
		s, at, e := EncodeBy(p, list)
		isText(t, fmt.Sprintf("EncodeBy %v", list), s, at, e, "", 0, api.ErrPuny)
	}
	s, at, e := EncodeBy(p, []rune{97})
	isText(t, "EncodeBy of basic ones alone", s, at, e, "a-", 0, api.OK)
	// Nine digits with t 0, and then one below t: w is not asked of the last digit of a number.
	p = api.Boot{Base: 10, Least: 0, Most: 8, Skew: 38, Damp: 700, Bias: 90, First: 128, Between: '-'}
	for text, c := range map[string]rune{"aaaaaaaaaa": 128, "baaaaaaaaa": 129, "jbaaaaaaaa": 147} {
		l, at, e := DecodeBy(p, text)
		isList(t, text, l, at, e, []rune{c}, 0, api.OK)
		s, at, e := EncodeBy(p, []rune{c})
		isText(t, text, s, at, e, text, 0, api.OK)
	}
	p.Bias = 100
	l, at, e := DecodeBy(p, "aaaaaaaaaaa")
	isList(t, "ten digits with t 0", l, at, e, nil, 9, api.ErrPuny)
	s, at, e = EncodeBy(p, []rune{128})
	isText(t, "ten digits with t 0", s, at, e, "", 0, api.ErrPuny)
}

// Promise 14.6: with Most the same as Least w that becomes too great, by a number that is not, is told in both directions.
func TestByMostTheSameAsLeast(t *testing.T) {
	p := api.Boot{Base: 36, Least: 1, Most: 1, Skew: 38, Damp: 700, Bias: 72, First: 128, Between: '-'}
	// 35 to the power of 7 is above MaxPuny, 7 digits that are 1 say 1892332261: in decoding w is told ahead of n.
	l, at, e := DecodeBy(p, "bbbbbba")
	isList(t, "n", l, at, e, nil, 6, api.ErrPuny)
	l, at, e = DecodeBy(p, "bbbbbbba")
	isList(t, "w", l, at, e, nil, 6, api.ErrPuny)
	// The same delta by 1800 points: what could be made can't be decoded, and one less can.
	const delta = 1892332261
	const c, place = 128 + delta/1800, delta % 1800
	if s, ok := (model{p}).made(long(1799, place, c)); !ok || !strings.HasSuffix(s, "-bbbbbbba") {
		t.Fatalf("%.20q, %v", s[1795:], ok)
	}
	s, at, e := EncodeBy(p, long(1799, place, c))
	isText(t, "w too great", s, at, e, "", 0, api.ErrPuny)
	isListBy(t, model{p}, long(1799, place-1, c))
	if s, _, e := EncodeBy(p, long(1799, place-1, c)); e != api.OK || !strings.HasSuffix(s, "-999999a") {
		t.Errorf("w not too great: %d", e)
	}
}

// Promise 14.6: with a First below 128 what is from First on is not basic, in neither direction.
func TestByFirstBelowASCII(t *testing.T) {
	p := with(func(p *api.Boot) { p.First = 97 })
	for text, list := range map[string][]rune{"a": {97}, "Z-a": {97, 90}, "`-": {96}, "aa": {97, 97}} {
		s, at, e := EncodeBy(p, list)
		isText(t, fmt.Sprintf("EncodeBy %v", list), s, at, e, text, 0, api.OK)
		l, at, e := DecodeBy(p, text)
		isList(t, text, l, at, e, list, 0, api.OK)
	}
	for _, x := range []struct {
		s  string
		at int
	}{{"a-", 0}, {"Za-a", 1}, {"ZZ\x7f-", 2}, {"Z\x80-", 1}, {"Z\xffa-!", 1}} {
		l, at, e := DecodeBy(p, x.s)
		isList(t, x.s, l, at, e, nil, x.at, api.ErrBasic)
	}
	for _, list := range [][]rune{[]rune("Bb\u00fcCcher"), {127, 128, 96, 97}, {0, 0x10ffff, 97}} {
		isListBy(t, model{p}, list)
	}
	// The least First that there is.
	p = with(func(p *api.Boot) { p.First, p.Between = 34, '!' })
	for _, list := range [][]rune{{33, 34, 35}, {0}, {33}, []rune("!a!\u00fc\x00"), {34}} {
		isListBy(t, model{p}, list)
	}
	l, at, e := DecodeBy(p, "!\x00\"!a")
	isList(t, "a quote", l, at, e, nil, 2, api.ErrBasic)
}

// Promise 14.6: with a First above 128 what is from 128 on and below First can't be encoded, behind ErrScalar.
func TestByFirstAboveASCII(t *testing.T) {
	p := with(func(p *api.Boot) { p.First = 0x4e00 })
	for _, x := range []struct {
		l  []rune
		at int
		e  api.Errno
	}{
		{[]rune{128}, 0, api.ErrBasic}, {[]rune{97, 252, 129}, 1, api.ErrBasic}, {[]rune{0x4e00, 97, 0x4dff}, 2, api.ErrBasic}, {[]rune{0x4e00, 128, 0x110000}, 2, api.ErrScalar}, {[]rune{252, -1, 0xd800}, 1, api.ErrScalar},
		{append(long(2500, 0, 0x10ffff), 200), 2501, api.ErrBasic}, {long(2500, 0, 0x10ffff), 0, api.ErrPuny},
	} {
		s, at, e := EncodeBy(p, x.l)
		isText(t, fmt.Sprintf("EncodeBy %v", short(x.l)), s, at, e, "", x.at, x.e)
	}
	for text, list := range map[string][]rune{"a": {0x4e00}, "\x7f-a": {0x4e00, 127}, "aa": {0x4e00, 0x4e00}, "a-": {97}} {
		s, at, e := EncodeBy(p, list)
		isText(t, fmt.Sprintf("EncodeBy %v", list), s, at, e, text, 0, api.OK)
		l, at, e := DecodeBy(p, text)
		isList(t, text, l, at, e, list, 0, api.OK)
	}
	for _, text := range []string{"\x80-", "\xc4\x80-a", "\xff-\xff"} {
		l, at, e := DecodeBy(p, text)
		isList(t, text, l, at, e, nil, 0, api.ErrBasic)
	}
	// A First that is a surrogate, and the greatest one.
	p.First = 0xdfff
	l, at, e := DecodeBy(p, "a")
	isList(t, "a surrogate", l, at, e, nil, 0, api.ErrSurrogate)
	l, at, e = DecodeBy(p, "ba")
	isList(t, "the one behind", l, at, e, []rune{0xe000}, 0, api.OK)
	p.First = 0x10ffff
	l, at, e = DecodeBy(p, "a")
	isList(t, "the greatest", l, at, e, []rune{0x10ffff}, 0, api.OK)
	l, at, e = DecodeBy(p, "ba")
	isList(t, "beyond the greatest", l, at, e, nil, 1, api.ErrPuny)
	isListBy(t, model{p}, []rune{97, 0x10ffff, 98, 0x10ffff, 0x10ffff})
}

// Promise 14.6: another byte between, which may be a letter that is no digit, and stands among the basic ones too.
func TestByAnotherBetween(t *testing.T) {
	p := with(func(p *api.Boot) { p.Base, p.Most, p.Between = 10, 5, 'k' })
	for _, list := range [][]rune{nil, []rune("k"), []rune("kk\u00fc"), []rune("-"), []rune("-\u00fc-"), []rune("K\u00fck")} {
		isListBy(t, model{p}, list)
	}
	l, at, e := DecodeBy(p, "a-bk")
	isList(t, "a-bk", l, at, e, []rune("a-b"), 0, api.OK)
	// The great one is neither that byte nor a digit.
	l, at, e = DecodeBy(p, "aKb")
	isList(t, "aKb", l, at, e, nil, 1, api.ErrDigits)
	l, at, e = DecodeBy(p, "aka-")
	if at != 3 || e != api.ErrDigits {
		t.Errorf("aka-: %v, %d, %d", l, at, e)
	}
}

// Promise 14.6: the chapter's fourth example, and every Base with other parameters, there and back.
func TestByEveryBase(t *testing.T) {
	p := api.Boot{Base: 10, Least: 1, Most: 5, Skew: 38, Damp: 700, Bias: 72, First: 128, Between: '-'}
	s, _, e := EncodeBy(p, []rune{252})
	if e != api.OK || s == "" || strings.Trim(s, "abcdefghij") != "" {
		t.Errorf("EncodeBy: %q, %d", s, e)
	}
	if a, b := Check(with(func(p *api.Boot) { p.Base = 2 })), Check(with(func(p *api.Boot) { p.Between = 'a' })); a != api.ErrBoot || b != api.ErrBoot {
		t.Errorf("Check: %d, %d", a, b)
	}
	for base := 3; base <= 36; base++ {
		for bottom := range base - 1 {
			for top := max(bottom, 1); top <= base-2; top++ {
				m := model{api.Boot{Base: base, Least: bottom, Most: top, Skew: 38, Damp: 700, Bias: 10, First: 128, Between: '-'}}
				for _, list := range [][]rune{{252}, {98, 252, 99, 104, 101, 114}, {0x4e00, 97, 0x4e8c, 0x4e00}, {0x10ffff, 128}} {
					isListBy(t, m, list)
				}
				for _, text := range []string{"a-aba", "baca", "CBCA", "a-bbbbbbbbbbbbbbbbbbbbbbbbbbbbbbbbbbbbb", "cccccccccccccccccccccccccccccccca"} {
					isTextBy(t, m, text)
				}
			}
		}
	}
}

// Promises 14.6, 14.7: lists and texts by chance with parameters by chance, against the model, there and back.
func TestByChanceByAnyParameters(t *testing.T) {
	r := rand.New(rand.NewSource(145))
	ended := make(map[api.Errno]int)
	for range 4000 {
		m := model{randomBoot(r)}
		for range 6 {
			l := randomList(r, 12)
			isListBy(t, m, l)
			_, _, e := EncodeBy(m.Boot, l)
			ended[e]++
			for i, c := range l {
				if int(c) < m.First && c >= 128 {
					l[i] = rune(m.First) + c%1000
				}
			}
			isListBy(t, m, l)
			s := randomText(r, m, 25)
			isTextBy(t, m, s)
			_, _, e = DecodeBy(m.Boot, s)
			ended[e]++
		}
	}
	for _, e := range []api.Errno{api.OK, api.ErrScalar, api.ErrDigits, api.ErrBasic, api.ErrPuny, api.ErrSurrogate} {
		if ended[e] == 0 {
			t.Errorf("none ended with %d: %v", e, ended)
		}
	}
}

// Promise 14.7: by the usual parameters all is as in Punycode.
func TestByUsual(t *testing.T) {
	r := rand.New(rand.NewSource(147))
	for range 20000 {
		list := randomList(r, 10)
		want, wantAt, wantE := Encode(list)
		s, at, e := EncodeBy(Usual(), list)
		isText(t, fmt.Sprintf("EncodeBy %v", list), s, at, e, want, wantAt, wantE)
		text := randomText(r, punycode(), 15)
		wantList, wantAt, wantE := Decode(text)
		l, at, e := DecodeBy(Usual(), text)
		isList(t, fmt.Sprintf("DecodeBy %q", text), l, at, e, wantList, wantAt, wantE)
	}
	for text, list := range samples() {
		s, at, e := EncodeBy(Usual(), list)
		isText(t, fmt.Sprintf("EncodeBy %v", list), s, at, e, text, 0, api.OK)
		l, at, e := DecodeBy(Usual(), text)
		isList(t, fmt.Sprintf("DecodeBy %q", text), l, at, e, list, 0, api.OK)
	}
}

// Marks, against a list of them.
func TestMarks(t *testing.T) {
	r := rand.New(rand.NewSource(148))
	for length := range 70 {
		m, plain := newMarks(length), make([]int, length)
		if length%2 == 1 {
			m = allMarks(length)
			for i := range plain {
				plain[i] = 1
			}
		}
		for range 4 * length {
			at := r.Intn(length)
			by := 1 - 2*plain[at]
			plain[at] += by
			m.change(at, by)
			many := 0
			for i, n := range plain {
				if m.ahead(i) != many {
					t.Fatalf("%v: ahead(%d) is %d, not %d", plain, i, m.ahead(i), many)
				}
				if n == 1 && m.find(many) != i {
					t.Fatalf("%v: find(%d) is %d, not %d", plain, many, m.find(many), i)
				}
				many += n
			}
		}
		if slices.Contains(plain, 2) {
			t.Fatal("a mark put twice")
		}
	}
}
