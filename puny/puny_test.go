package puny

import (
	"fmt"
	"math"
	"math/rand"
	"slices"
	"strings"
	"testing"

	"postern/api"
)

// samples is texts and the lists that they say: those of RFC 3492 among them.
func samples() map[string][]rune {
	return map[string][]rune{
		"":                               nil,
		"a-":                             {97},
		"--":                             {45},
		"---":                            {45, 45},
		"\x00-":                          {0},
		"\x7f-":                          {127},
		"a-b-":                           []rune("a-b"),
		"-a-":                            []rune("-a"),
		"-> $1.00 <--":                   []rune("-> $1.00 <-"),
		"bcher-kva":                      {98, 252, 99, 104, 101, 114},
		"BCHER-kva":                      []rune("B\u00fcCHER"),
		"a":                              {128},
		"tda":                            {252},
		"ls8h":                           {128169},
		"4dbrk0ce":                       []rune("\u05d9\u05e9\u05e8\u05d0\u05dc"),
		"egbpdaj6bu4bxfgehfvwxn":         []rune("\u0644\u064a\u0647\u0645\u0627\u0628\u062a\u0643\u0644\u0645\u0648\u0634\u0639\u0631\u0628\u064a\u061f"),
		"ihqwcrb4cv8a8dqg056pqjye":       []rune("\u4ed6\u4eec\u4e3a\u4ec0\u4e48\u4e0d\u8bf4\u4e2d\u6587"),
		"Proprostnemluvesky-uyb24dma41a": []rune("Pro\u010dprost\u011bnemluv\u00ed\u010desky"),
		"b1abfaaepdrnnbgefbadotcwatmq2g4l": []rune(
			"\u043f\u043e\u0447\u0435\u043c\u0443\u0436\u0435\u043e\u043d\u0438\u043d\u0435\u0433\u043e\u0432\u043e\u0440\u044f\u0442\u043f\u043e\u0440\u0443\u0441\u0441\u043a\u0438"),
		"3B-ww4c5e180e575a65lsy2b":                 []rune("3\u5e74B\u7d44\u91d1\u516b\u5148\u751f"),
		"-with-SUPER-MONKEYS-pc58ag80a8qai00g7n9n": []rune("\u5b89\u5ba4\u5948\u7f8e\u6075-with-SUPER-MONKEYS"),
		"Hello-Another-Way--fc4qua05auwb3674vfr0b": []rune("Hello-Another-Way-\u305d\u308c\u305e\u308c\u306e\u5834\u6240"),
		"2-u9tlzr9756bt3uc0v":                      []rune("\u3072\u3068\u3064\u5c4b\u6839\u306e\u4e0b2"),
		"MajiKoi5-783gue6qz075azm5e":               []rune("Maji\u3067Koi\u3059\u308b5\u79d2\u524d"),
		"de-jg4avhby1noc0d":                        []rune("\u30d1\u30d5\u30a3\u30fcde\u30eb\u30f3\u30d0"),
		"d9juau41awczczp":                          []rune("\u305d\u306e\u30b9\u30d4\u30fc\u30c9\u3067"),
	}
}

// Promises 14.1, 14.2, 14.4: lists of nothing, of basic ones alone, of none that is basic, of both, there and back; the first example.
func TestSamples(t *testing.T) {
	for text, list := range samples() {
		s, at, e := Encode(list)
		isText(t, fmt.Sprintf("Encode(%v)", list), s, at, e, text, 0, api.OK)
		l, at, e := Decode(text)
		isList(t, fmt.Sprintf("Decode(%q)", text), l, at, e, list, 0, api.OK)
		if !Proper(text) {
			t.Errorf("Proper(%q): false", text)
		}
	}
}

// Promise 14.1: the first one that is no scalar value is told, wherever it stands, surrogates with them.
func TestEncodeOfWhatIsNoScalarValue(t *testing.T) {
	for _, wrong := range []rune{-1, least, most, 0x110000, 0xd800, 0xdbff, 0xdc00, 0xdfff} {
		for _, list := range [][]rune{{98}, {252}, {98, 252, 99, 104, 101, 114}, {0xd7ff, 0xe000, 0x10ffff, 0}} {
			for at := range len(list) + 1 {
				l := slices.Insert(slices.Clone(list), at, wrong)
				s, place, e := Encode(l)
				isText(t, fmt.Sprintf("Encode(%v)", l), s, place, e, "", at, api.ErrScalar)
				l = append(l, wrong, -5)
				s, place, e = Encode(l)
				isText(t, fmt.Sprintf("Encode(%v)", l), s, place, e, "", at, api.ErrScalar)
			}
		}
	}
	for _, right := range []rune{0, 127, 128, 0xd7ff, 0xe000, 0x10ffff} {
		if s, at, e := Encode([]rune{right}); s == "" || at != 0 || e != api.OK {
			t.Errorf("Encode of %d: %q, %d, %d", right, s, at, e)
		}
	}
	// It goes ahead of a number that is too great.
	l := append(long(2500, 0, 0x10ffff), 0xd800)
	s, at, e := Encode(l)
	isText(t, "Encode of a long list", s, at, e, "", 2501, api.ErrScalar)
}

// long is so many letters with a code point in a place among them.
func long(many, place int, c rune) []rune {
	return slices.Insert([]rune(strings.Repeat("a", many)), place, c)
}

// Promise 14.1: the greatest number that is not too great, and the one behind it, by places and by code points.
func TestEncodeOfLongLists(t *testing.T) {
	m := punycode()
	// 1073741 times 2000 and 1647 is MaxPuny.
	const c = 128 + 1073741
	for _, x := range []struct {
		what string
		l    []rune
		ok   bool
	}{
		{"delta MaxPuny", long(1999, 1647, c), true},
		{"delta MaxPuny and 1", long(1999, 1648, c), false},
		{"at the end", long(1999, 1999, c), false},
		{"one less, at the end", long(1999, 1999, c-1), true},
		{"one more, at the front", long(1999, 0, c+1), false},
		{"the greatest code point, 1927 points", long(1926, 1926, 0x10ffff), true},
		{"the greatest code point, 1928 points", long(1927, 0, 0x10ffff), false},
		{"the second number", append(long(2600, 0, 0x80), 0x10ffff), false},
		{"twice", append(long(1924, 0, 0x10ffff), 0x10ffff), true},
	} {
		want, made := m.made(x.l)
		if made != x.ok {
			t.Fatalf("%s: the delta is too great: %v", x.what, !made)
		}
		if !x.ok {
			s, at, e := Encode(x.l)
			isText(t, x.what, s, at, e, "", 0, api.ErrPuny)
			continue
		}
		s, at, e := Encode(x.l)
		isText(t, x.what, s, at, e, want, 0, api.OK)
		l, at, e := Decode(s)
		isList(t, x.what, l, at, e, x.l, 0, api.OK)
	}
}

// Promise 14.1: what could be made but not decoded, as i has the place of the number ahead in it, is told too.
func TestEncodeOfWhatCouldNotBeDecoded(t *testing.T) {
	m := punycode()
	const c = 128 + 1073741
	for _, x := range []struct {
		what string
		l    []rune
		ok   bool
	}{
		{"i MaxPuny", slices.Insert(long(1998, 0, 128), 1647, c), true},
		{"i MaxPuny and 1, delta MaxPuny", slices.Insert(long(1998, 0, 128), 1648, c), false},
		{"i MaxPuny, behind the end", slices.Insert(long(1998, 1998, 128), 1647, c), true},
		{"i MaxPuny and 1, behind the end", slices.Insert(long(1998, 1998, 128), 1648, c), false},
		{"all at the end", append(long(1998, 1998, 128), c), false},
		{"all at the end, one less", append(long(1998, 1998, 128), c-1), true},
	} {
		want, made := m.made(x.l)
		if !made {
			t.Fatalf("%s: the encoding alone can't be made", x.what)
		}
		s, at, e := Encode(x.l)
		l, place, wrong := Decode(want)
		if x.ok {
			isText(t, x.what, s, at, e, want, 0, api.OK)
			isList(t, x.what, l, place, wrong, x.l, 0, api.OK)
		} else {
			isText(t, x.what, s, at, e, "", 0, api.ErrPuny)
			isList(t, x.what, l, place, wrong, nil, len(want)-1, api.ErrPuny)
		}
	}
}

// Promise 14.2: texts with hyphens at the front, at the end, several, and none.
func TestDecodeOfHyphens(t *testing.T) {
	for _, x := range []struct {
		s    string
		want []rune
		at   int
		e    api.Errno
	}{
		{"-", nil, 0, api.ErrDigits}, {"-a", nil, 0, api.ErrDigits}, {"-kva", nil, 0, api.ErrDigits}, {"-\xff", nil, 0, api.ErrDigits},
		{"--", []rune{45}, 0, api.OK}, {"---", []rune{45, 45}, 0, api.OK}, {"--a", []rune{128, 45}, 0, api.OK}, {"-a-a", []rune{128, 45, 97}, 0, api.OK},
		{"a-a", []rune{128, 97}, 0, api.OK}, {"a", []rune{128}, 0, api.OK}, {"aa", []rune{128, 128}, 0, api.OK}, {"a-b-a", []rune{128, 97, 45, 98}, 0, api.OK},
		{"bcher-kva-", []rune("bcher-kva"), 0, api.OK}, {"a b.%\x00\x7f-", []rune{97, 32, 98, 46, 37, 0, 127}, 0, api.OK},
	} {
		l, at, e := Decode(x.s)
		isList(t, fmt.Sprintf("Decode(%q)", x.s), l, at, e, x.want, x.at, x.e)
	}
}

// Promise 14.2: bytes that may not stand there, ahead of the last hyphen and behind it, and texts that end in the midst of a number.
func TestDecodeOfWrongBytes(t *testing.T) {
	for _, x := range []struct {
		s  string
		at int
		e  api.Errno
	}{
		{"a\xff-b", 1, api.ErrBasic}, {"\x80-", 0, api.ErrBasic}, {"\xff\xfe-\xfd", 0, api.ErrBasic}, {"-\xff-", 1, api.ErrBasic}, {"ab\x80\x81-99999999", 2, api.ErrBasic}, {"b\u00fccher-", 1, api.ErrBasic},
		{"a-\xff", 2, api.ErrDigits}, {"\xff", 0, api.ErrDigits}, {"a\xff", 1, api.ErrDigits}, {"a-b\xff", 3, api.ErrDigits}, {"a-a!a\xff", 3, api.ErrDigits}, {"bcher-k.va", 7, api.ErrDigits}, {"ab c", 2, api.ErrDigits},
		{"b", 1, api.ErrDigits}, {"bcher-k", 7, api.ErrDigits}, {"bcher-kv", 8, api.ErrDigits}, {"bcher-kva0", 10, api.ErrDigits}, {"9", 1, api.ErrDigits}, {"a-9999", 6, api.ErrDigits},
	} {
		l, at, e := Decode(x.s)
		isList(t, fmt.Sprintf("Decode(%q)", x.s), l, at, e, nil, x.at, x.e)
	}
}

// Promise 14.2: every byte ahead of the last hyphen, where a digit stands, and in the midst of a number.
func TestDecodeOfEveryByte(t *testing.T) {
	for c := range 256 {
		s := "x" + string([]byte{byte(c)}) + "-"
		l, at, e := Decode(s)
		if c < 128 {
			isList(t, fmt.Sprintf("Decode(%q)", s), l, at, e, []rune{'x', rune(c)}, 0, api.OK)
		} else {
			isList(t, fmt.Sprintf("Decode(%q)", s), l, at, e, nil, 1, api.ErrBasic)
		}
		for _, ahead := range []string{"", "a", "b", "xy-", "xy-k"} {
			isTextBy(t, punycode(), ahead+string([]byte{byte(c)}))
			isTextBy(t, punycode(), ahead+string([]byte{byte(c)})+"a")
		}
		if !strings.Contains(alphabet, lower(string([]byte{byte(c)}))) && c != '-' {
			l, at, e := Decode("xy-k" + string([]byte{byte(c)}) + "a")
			isList(t, fmt.Sprintf("Decode with %d", c), l, at, e, nil, 4, api.ErrDigits)
		}
	}
}

// Promise 14.2: i that becomes too great is told at its digit, ahead of what is wrong behind that.
func TestDecodeOfGreatNumbers(t *testing.T) {
	for _, x := range []struct {
		s  string
		at int
		e  api.Errno
	}{
		{"99999999", 7, api.ErrPuny}, {"9999999", 7, api.ErrDigits}, {"999999999", 7, api.ErrPuny}, {"99999999!", 7, api.ErrPuny}, {"9999999!", 7, api.ErrDigits},
		{"a-99999999", 9, api.ErrPuny}, {"99999999-99999999", 16, api.ErrPuny}, {"a99999999", 9, api.ErrDigits}, {"a999999999", 9, api.ErrPuny},
		// The last digit is below t, so that w stays: of the first it is i that becomes too great, of the second n.
		{"9999999z", 7, api.ErrPuny}, {"9999999a", 7, api.ErrPuny},
	} {
		l, at, e := Decode(x.s)
		isList(t, fmt.Sprintf("Decode(%q)", x.s), l, at, e, nil, x.at, x.e)
	}
}

// Promise 14.2: n that becomes too great, or a surrogate, is told at the last digit of its number, and what comes behind is not looked at.
func TestDecodeOfGreatPointsAndSurrogates(t *testing.T) {
	m := punycode()
	for _, x := range []struct {
		l []rune
		e api.Errno
	}{
		{[]rune{0x110000}, api.ErrPuny}, {[]rune{0x10ffff}, api.OK}, {[]rune{0x7fffffff - 1}, api.ErrPuny}, {[]rune{97, 0x10ffff, 0x110000}, api.ErrPuny}, {[]rune{0x110001, 97}, api.ErrPuny},
		{[]rune{0xd7ff}, api.OK}, {[]rune{0xd800}, api.ErrSurrogate}, {[]rune{0xdbff}, api.ErrSurrogate}, {[]rune{0xdc00}, api.ErrSurrogate}, {[]rune{0xdfff}, api.ErrSurrogate}, {[]rune{0xe000}, api.OK},
		{[]rune{97, 0xd7ff, 98, 0xe000}, api.OK}, {[]rune{97, 0xdfff, 98, 252}, api.ErrSurrogate}, {[]rune{0xd800, 97, 98}, api.ErrSurrogate},
	} {
		s, ok := m.made(x.l)
		if !ok {
			t.Fatalf("no text of %v", x.l)
		}
		l, at, e := Decode(s)
		if x.e == api.OK {
			isList(t, fmt.Sprintf("Decode(%q)", s), l, at, e, x.l, 0, api.OK)
			continue
		}
		isList(t, fmt.Sprintf("Decode(%q)", s), l, at, e, nil, len(s)-1, x.e)
		for _, behind := range []string{"a", "b", "!", "\xff", "99999999"} {
			l, at, e = Decode(s + behind)
			isList(t, fmt.Sprintf("Decode(%q)", s+behind), l, at, e, nil, len(s)-1, x.e)
		}
	}
	// Of two surrogates and what is too great the first one is told.
	s, _ := m.made([]rune{0xd800, 0xd801, 0x110000})
	first, _ := m.made([]rune{0xd800})
	l, at, e := Decode(s)
	isList(t, "Decode of two surrogates", l, at, e, nil, len(first)-1, api.ErrSurrogate)
}

// Promise 14.4: great letters behind the last hyphen say the same; ahead of it they stand as they are.
func TestGreatLetters(t *testing.T) {
	for text, list := range samples() {
		at := strings.LastIndexByte(text, '-') + 1
		great := text[:at] + upper(text[at:])
		l, place, e := Decode(great)
		isList(t, fmt.Sprintf("Decode(%q)", great), l, place, e, list, 0, api.OK)
		s, place, e := Encode(l)
		isText(t, fmt.Sprintf("Encode(%v)", l), s, place, e, text, 0, api.OK)
		if Proper(great) != (great == text) {
			t.Errorf("Proper(%q): %v", great, Proper(great))
		}
	}
	l, at, e := Decode("bChEr-KvA")
	isList(t, "Decode", l, at, e, []rune("b\u00fcChEr"), 0, api.OK)
}

// biasBy is the chapter's words with its numbers.
func biasBy(delta, points int, first bool) int {
	if first {
		delta /= 700
	} else {
		delta /= 2
	}
	delta += delta / points
	k := 0
	for ; delta > 455; k += 36 {
		delta /= 35
	}
	return k + 36*delta/(delta+38)
}

// Promise 14.3: Adapt at both ends of what it takes and beyond them, the first time and not.
func TestAdapt(t *testing.T) {
	good := []int{1, 2, 3, 455, 456, 699, 700, 701, 909, 910, 911, 912, 1000, 455 * 700, 456*700 - 1, 456 * 700, 35 * 456, 35*456 - 1, 1 << 20, api.MaxPuny - 1, api.MaxPuny}
	bad := []int{-1, -2, api.MaxPuny + 1, math.MaxInt, math.MinInt}
	for _, first := range []bool{false, true} {
		for _, delta := range append([]int{0}, good...) {
			for _, points := range good {
				if n, e := Adapt(delta, points, first); n != biasBy(delta, points, first) || e != api.OK {
					t.Errorf("Adapt(%d, %d, %v): %d, %d", delta, points, first, n, e)
				}
			}
		}
		for _, wrong := range bad {
			for _, right := range good {
				if n, e := Adapt(wrong, right, first); n != 0 || e != api.ErrArg {
					t.Errorf("Adapt(%d, %d, %v): %d, %d", wrong, right, first, n, e)
				}
				if n, e := Adapt(right, wrong, first); n != 0 || e != api.ErrArg {
					t.Errorf("Adapt(%d, %d, %v): %d, %d", right, wrong, first, n, e)
				}
			}
		}
		if n, e := Adapt(5, 0, first); n != 0 || e != api.ErrArg {
			t.Errorf("Adapt(5, 0, %v): %d, %d", first, n, e)
		}
	}
}

// Promise 14.3: Adapt of some, by hand.
func TestAdaptByHand(t *testing.T) {
	for _, x := range []struct {
		delta, points int
		first         bool
		want          int
	}{
		{0, 1, true, 0}, {0, 1, false, 0}, {699, 1, true, 0}, {700, 1, true, 1}, {700, 2, true, 0}, {1, 1, false, 0}, {2, 1, false, 1}, {745, 6, true, 0},
		// 455 is not above 455, and 456 is.
		{910, 456, false, 33}, {912, 457, false, 36 + 9}, {455 * 700, 456, true, 33}, {456 * 700, 457, true, 36 + 9},
		{api.MaxPuny, 1, false, 198}, {api.MaxPuny, api.MaxPuny, false, 180 + 36*20/58},
	} {
		if n, e := Adapt(x.delta, x.points, x.first); n != x.want || e != api.OK {
			t.Errorf("Adapt(%d, %d, %v): %d, %d, not %d", x.delta, x.points, x.first, n, e, x.want)
		}
	}
}

// Promise 14.3: Digit of every byte, Letter of every number about those that are digits.
func TestDigitAndLetter(t *testing.T) {
	for c := range 256 {
		if want := strings.Index(alphabet, lower(string([]byte{byte(c)}))); Digit(byte(c)) != want {
			t.Errorf("Digit(%d): %d, not %d", c, Digit(byte(c)), want)
		}
	}
	for d := -300; d < 600; d++ {
		c, e := Letter(d)
		if d >= 0 && d < 36 {
			if c != alphabet[d] || e != api.OK || Digit(c) != d {
				t.Errorf("Letter(%d): %d, %d", d, c, e)
			}
		} else if c != 0 || e != api.ErrArg {
			t.Errorf("Letter(%d): %d, %d", d, c, e)
		}
	}
	for _, d := range []int{math.MinInt, math.MaxInt, 1 << 32, -1 << 32, 1<<32 + 5} {
		if c, e := Letter(d); c != 0 || e != api.ErrArg {
			t.Errorf("Letter(%d): %d, %d", d, c, e)
		}
	}
}

// Promise 14.3: Proper of texts that are and are not.
func TestProper(t *testing.T) {
	for s, want := range map[string]bool{
		"": true, "a": true, "a-": true, "A-": true, "--": true, "BCHER-kva": true, "ls8h": true, "a-b-": true,
		"A": false, "-": false, "-a": false, "b": false, "bcher-KVA": false, "bcher-kvA": false, "LS8h": false, "a\xff-": false, "a-\xff": false, "99999999": false, "bcher-kv": false,
	} {
		if Proper(s) != want {
			t.Errorf("Proper(%q): %v", s, !want)
		}
	}
	for _, l := range [][]rune{{0xd800}, {0x110000}} {
		if s, _ := punycode().made(l); Proper(s) {
			t.Errorf("Proper(%q): true", s)
		}
	}
}

// The chapter's examples that stand in no other test here.
func TestExamples(t *testing.T) {
	for _, x := range []struct {
		s  string
		at int
		e  api.Errno
	}{{"-", 0, api.ErrDigits}, {"a\xff-b", 1, api.ErrBasic}, {"b", 1, api.ErrDigits}, {"99999999", 7, api.ErrPuny}} {
		l, at, e := Decode(x.s)
		isList(t, x.s, l, at, e, nil, x.at, x.e)
	}
	if n, e := Adapt(0, 1, true); n != 0 || e != api.OK {
		t.Errorf("Adapt: %d, %d", n, e)
	}
	if c, e := Letter(26); c != '0' || e != api.OK || Digit('Z') != 25 {
		t.Errorf("Letter: %d, %d; Digit: %d", c, e, Digit('Z'))
	}
	if !Proper("BCHER-kva") || Proper("bcher-KVA") {
		t.Errorf("Proper: %v, %v", Proper("BCHER-kva"), Proper("bcher-KVA"))
	}
}

// Promises 14.1, 14.4: every short list of some code points, against the model, there and back.
func TestOfAllShortLists(t *testing.T) {
	m := punycode()
	check := func(l []rune) { isListBy(t, m, l) }
	for length := range 6 {
		lists(length, []rune{0, 45, 97, 128, 129, 252, 0x4e00, 0x10ffff}, check)
	}
	for length := range 5 {
		lists(length, []rune{-1, 97, 127, 128, 0xd7ff, 0xd800, 0xdfff, 0xe000, 0x10fffe, 0x10ffff, 0x110000}, check)
	}
}

// Promises 14.2, 14.4: every short text of some bytes, against the model, there and back.
func TestOfAllShortTexts(t *testing.T) {
	m := punycode()
	check := func(b []byte) { isTextBy(t, m, string(b)) }
	for length := range 6 {
		lists(length, []byte("aBz09-.\xff"), check)
	}
	for length := range 4 {
		lists(length, []byte(alphabet+"-Z"), check)
	}
	for length := range 9 {
		lists(length, []byte("a9-z"), check)
	}
}

// Promises 14.1, 14.2, 14.4: lists and texts by chance, against the model, there and back.
func TestByChance(t *testing.T) {
	r := rand.New(rand.NewSource(14))
	m := punycode()
	for range 30000 {
		isListBy(t, m, randomList(r, 12))
		isTextBy(t, m, randomText(r, m, 20))
	}
	for range 300 {
		isListBy(t, m, randomScalars(r, 400))
		isTextBy(t, m, randomText(r, m, 400))
	}
}

// randomScalars is so many scalar values, most of them near each other.
func randomScalars(r *rand.Rand, many int) []rune {
	l := make([]rune, 0, many)
	for len(l) < many {
		if c := randomPoint(r); c >= 0 && c < 0x10ffff && !isSurrogate(int(c)) {
			l = append(l, c)
		}
	}
	return l
}

// Promises 14.1, 14.2: long lists with numbers about MaxPuny, by chance, against the model.
func TestOfGreatNumbersByChance(t *testing.T) {
	r := rand.New(rand.NewSource(141))
	m := punycode()
	ended := make(map[api.Errno]int)
	for range 300 {
		many := 1900 + r.Intn(800)
		l := long(many, r.Intn(many), 128+rune(api.MaxPuny/(many+2))-r.Int31n(3)+1)
		if l[slices.IndexFunc(l, func(c rune) bool { return c > 97 })] > 0x10ffff {
			continue
		}
		l = slices.Insert(l, r.Intn(len(l)), 128+r.Int31n(2))
		isListBy(t, m, l)
		s, _ := m.made(l)
		isTextBy(t, m, s)
		_, _, e := Encode(l)
		ended[e]++
	}
	if ended[api.OK] < 20 || ended[api.ErrPuny] < 20 {
		t.Errorf("how they ended: %v", ended)
	}
}

// Promise 14.4: lists of many unlike code points, in any order, there and back, without a walk through the list for each of them.
func TestOfManyPoints(t *testing.T) {
	var l []rune
	for c := rune(0); c <= 0x10ffff; c += 9 {
		if !isSurrogate(int(c)) {
			l = append(l, c)
		}
	}
	r := rand.New(rand.NewSource(144))
	for range 3 {
		s, at, e := Encode(l)
		if s == "" || at != 0 || e != api.OK {
			t.Fatalf("Encode: %d bytes, %d, %d", len(s), at, e)
		}
		again, at, e := Decode(s)
		isList(t, "Decode", again, at, e, l, 0, api.OK)
		if !Proper(s) {
			t.Errorf("Proper: false")
		}
		r.Shuffle(len(l), func(i, j int) { l[i], l[j] = l[j], l[i] })
	}
}
