package label

import (
	"math/rand"
	"slices"
	"strings"
	"testing"
	"time"

	"postern/api"
	"postern/book"
	"postern/compose"
	"postern/mapping"
	"postern/sample"
)

// runes is the code points of a text, in tests alone.
func runes(s string) []rune { return []rune(s) }

// haveFaults holds Faults, Valid, and Read of what is not coded, against faults that are told by hand.
func haveFaults(t *testing.T, x *book.Tables, l []rune, want ...int) {
	t.Helper()
	if got := Faults(x, l); !slices.Equal(got, want) {
		t.Errorf("Faults(%v): %v, not %v", l, got, want)
	}
	if got := Valid(x, l); got != (len(want) == 0) {
		t.Errorf("Valid(%v): %v", l, got)
	}
	if !Coded(l) {
		isRead(t, x, l, api.Label{Says: l, Fault: append(want, 0)[0]})
	}
}

// Promise 18.1: the faults have their numbers.
func TestNumbers(t *testing.T) {
	got := []int{api.FaultForm, api.FaultPrefix, api.FaultStop, api.FaultMark, api.FaultStatus, api.FaultJoiner, api.FaultASCII, api.FaultPuny, api.FaultPlain}
	if !slices.Equal(got, []int{1, 2, 3, 4, 5, 6, 7, 8, 9}) {
		t.Error(got)
	}
}

// Promises 18.1 and 18.2: the empty label, and labels with none of the faults.
func TestWithoutFaults(t *testing.T) {
	for _, b := range someBooks() {
		x := modelOf(t, b).tables
		haveFaults(t, x, nil)
		haveFaults(t, x, []rune{})
		// What stands behind the label's end is none of it.
		haveFaults(t, x, append(make([]rune, 0, 4), em, great, '.')[:0])
	}
	x := modelOf(t, someBook()).tables
	for _, l := range [][]rune{{'a'}, {'a', em}, {'-'}, {'x', 'n', '-'}, {'x', 'n', '-', 'a', '-'}, {'a', 'x', 'n', '-', '-'}, {'n', 'x', '-', '-'}, {0}, {64, 127}, {aGrave, udia}, {aGrave, grave}, {bee, virama, grave}, {223}, {bee, virama, zjoiner}, {bee, virama, njoiner}, {beh, njoiner, beh}, {0xd800}, {0x10ffff}} {
		haveFaults(t, x, l)
	}
}

// Promises 18.1 and 18.2: each of the six alone.
func TestEachFaultAlone(t *testing.T) {
	x := modelOf(t, someBook()).tables
	for fault, labels := range map[int][][]rune{
		api.FaultForm:   {{bee, grave, virama}, {'a', grave}, {bee, 'a', grave}, {'a', grave, grave}, {'a', grave, bee}},
		api.FaultPrefix: {{'x', 'n', '-', '-'}, {'x', 'n', '-', '-', 'a'}, {'x', 'n', '-', '-', udia}, {'x', 'n', '-', '-', '-'}},
		api.FaultStop:   {{'.'}, {'a', '.'}, {'.', 'a'}, {'a', '.', bee}, {'.', '.'}},
		api.FaultMark:   {{em}, {grave}, {virama}, {em, 'a'}, {grave, 'a'}, {virama, zjoiner}, {0xd801}},
		api.FaultStatus: {{great}, {'a', great}, {great, 'a'}, {soft}, {bee, soft, bee}, {bee, 65}, {128}, {-1}, {0x110000}, {most}, {least}, {97 + 0x110000}, {97 - 0x110000}, {46 + 0x110000}, {em + 0x110000}, {0xdfff}},
		api.FaultJoiner: {{zjoiner}, {njoiner}, {bee, zjoiner}, {bee, njoiner, bee}, {beh, zjoiner, beh}, {beh, njoiner}, {bee, virama, bee, zjoiner}, {bee, virama, zjoiner, zjoiner}},
	} {
		for _, l := range labels {
			haveFaults(t, x, l, fault)
		}
	}
	// A mark is a fault at the front alone, and just as the book says.
	haveFaults(t, x, []rune{0xd802}, api.FaultMark, api.FaultStatus)
	haveFaults(t, x, []rune{0xd803}, api.FaultStatus)
	haveFaults(t, x, []rune{bee, 0xd801})
}

// Promises 18.1 and 18.2: of each set of the six, in each order in which what they come from may stand, all that there are, rising; and Read tells the first of them, in a label and in what a coded one says.
func TestFaultsTogether(t *testing.T) {
	plain, marked := modelOf(t, someBook()).tables, modelOf(t, withMarkedPrefix()).tables
	pieces := map[int][]rune{api.FaultForm: {'a', grave}, api.FaultStop: {'.'}, api.FaultStatus: {great}, api.FaultJoiner: {bee, zjoiner}}
	for set := range 64 {
		var want []int
		var behind [][]rune
		for fault := 1; fault <= 6; fault++ {
			if set>>(fault-1)&1 != 0 {
				want = append(want, fault)
				if piece, ok := pieces[fault]; ok {
					behind = append(behind, piece)
				}
			}
		}
		x, front := plain, []rune{bee}
		switch prefixed, begins := slices.Contains(want, api.FaultPrefix), slices.Contains(want, api.FaultMark); {
		case prefixed && begins:
			x, front = marked, runes(prefix)
		case prefixed:
			front = runes(prefix)
		case begins:
			front = []rune{em}
		}
		orders(behind, func(behind [][]rune) {
			l := slices.Concat(front, slices.Concat(behind...), []rune{bee})
			haveFaults(t, x, l, want...)
			says := append(slices.Clone(l), udia)
			haveFaults(t, x, says, want...)
			s, _, e := ASCII(says)
			if e != api.OK {
				t.Fatalf("ASCII(%v): %d", says, e)
			}
			isRead(t, x, runes(s), api.Label{Says: says, Coded: true, Fault: append(want, 0)[0]})
		})
	}
}

// orders calls with a list in each order.
func orders(of [][]rune, call func([][]rune)) {
	if len(of) == 0 {
		call(nil)
		return
	}
	for i, one := range of {
		orders(slices.Delete(slices.Clone(of), i, i+1), func(rest [][]rune) {
			call(append([][]rune{one}, rest...))
		})
	}
}

// Promise 18.2: coded labels whose codes are told by hand, with each fault that one may have.
func TestReadCoded(t *testing.T) {
	x := modelOf(t, someBook()).tables
	for s, want := range map[string]api.Label{
		"xn--bcher-kva":           {Says: []rune{'b', udia, 'c', 'h', 'e', 'r'}},
		"xn--BCHER-kva":           {Says: []rune{'B', udia, 'C', 'H', 'E', 'R'}, Fault: api.FaultStatus},
		"xn--bcher-KVA":           {Says: []rune{'b', udia, 'c', 'h', 'e', 'r'}},
		"xn--tda":                 {Says: []rune{udia}},
		"xn--0ca":                 {Says: []rune{aGrave}},
		"xn--zca":                 {Says: []rune{223}},
		"xn--dn32g":               {Says: []rune{0x10ffff}},
		"xn--ngba799q":            {Says: []rune{beh, njoiner, beh}},
		"xn--11b6iy14e":           {Says: []rune{0x915, virama, zjoiner}, Fault: api.FaultStatus},
		"xn--a--xka":              {Says: []rune{'a', udia, '-'}},
		"xn--a-vbb":               {Says: []rune{'a', grave}, Fault: api.FaultForm},
		"xn--a-eha16m":            {Says: []rune{'a', grave, udia}, Fault: api.FaultForm},
		"xn--xn---3ra":            {Says: []rune{'x', 'n', '-', '-', udia}, Fault: api.FaultPrefix},
		"xn--xn--bcher-u9a":       {Says: []rune{'x', 'n', '-', '-', 'b', udia, 'c', 'h', 'e', 'r'}, Fault: api.FaultPrefix},
		"xn--.-dha":               {Says: []rune{udia, '.'}, Fault: api.FaultStop},
		"xn--m-eha":               {Says: []rune{em, udia}, Fault: api.FaultMark},
		"xn--tda54h":              {Says: []rune{grave, udia}, Fault: api.FaultMark},
		"xn--a":                   {Says: []rune{128}, Fault: api.FaultStatus},
		"xn--wca":                 {Says: []rune{220}, Fault: api.FaultStatus},
		"xn--A-eha":               {Says: []rune{great, udia}, Fault: api.FaultStatus},
		"xn--a-eha379u":           {Says: []rune{'a', udia, zjoiner}, Fault: api.FaultJoiner},
		"xn--xn--.Aa-q2a167b255g": {Says: []rune{'x', 'n', '-', '-', udia, '.', great, zjoiner, 'a', grave}, Fault: api.FaultForm},
		// What says nothing, or ASCII alone, whatever else is wrong with that.
		"xn--":       {Fault: api.FaultPlain},
		"xn--a-":     {Says: runes("a"), Fault: api.FaultPlain},
		"xn--m-":     {Says: runes("m"), Fault: api.FaultPlain},
		"xn--A-":     {Says: runes("A"), Fault: api.FaultPlain},
		"xn--.-":     {Says: runes("."), Fault: api.FaultPlain},
		"xn----":     {Says: runes("-"), Fault: api.FaultPlain},
		"xn--\x00-":  {Says: runes("\x00"), Fault: api.FaultPlain},
		"xn--\x7f-":  {Says: runes("\x7f"), Fault: api.FaultPlain},
		"xn--xn--a-": {Says: runes("xn--a"), Fault: api.FaultPlain},
		"xn--xn----": {Says: runes("xn---"), Fault: api.FaultPlain},
		"xn--a.b-c-": {Says: runes("a.b-c"), Fault: api.FaultPlain},
		// What is no Punycode: the label itself stands.
		"xn---":        {Fault: api.FaultPuny},
		"xn--b":        {Fault: api.FaultPuny},
		"xn--a-b":      {Fault: api.FaultPuny},
		"xn--.":        {Fault: api.FaultPuny},
		"xn--a.":       {Fault: api.FaultPuny},
		"xn--0ca.":     {Fault: api.FaultPuny},
		"xn--99999999": {Fault: api.FaultPuny},
		"xn---a-.":     {Fault: api.FaultPuny},
		"xn--\x00":     {Fault: api.FaultPuny},
		"xn--\x7f":     {Fault: api.FaultPuny},
		"xn--a-eha ":   {Fault: api.FaultPuny},
		// What is not ASCII alone, whether or not Punycode would tell an error, and where it stands.
		"xn--\u00fc":      {Fault: api.FaultASCII},
		"xn--\u0080":      {Fault: api.FaultASCII},
		"xn--\u00fc-":     {Fault: api.FaultASCII},
		"xn--\u00fctda":   {Fault: api.FaultASCII},
		"xn--tda\u00fc":   {Fault: api.FaultASCII},
		"xn--a-\u00fc":    {Fault: api.FaultASCII},
		"xn--b\u00fc":     {Fault: api.FaultASCII},
		"xn--a\u0300":     {Fault: api.FaultASCII},
		"xn--a.\u200d":    {Fault: api.FaultASCII},
		"xn--\U0010ffff":  {Fault: api.FaultASCII},
		"xn--tda\uff41-a": {Fault: api.FaultASCII},
	} {
		want.Coded = true
		if want.Fault == api.FaultPuny || want.Fault == api.FaultASCII {
			want.Says = runes(s)
		}
		isRead(t, x, runes(s), want)
	}
	// What is no scalar value, or becomes ASCII as a byte, is not ASCII.
	for _, p := range []rune{-1, least, most, 0xd800, 0x110000, 'a' - 128, 'a' + 256, 'a' + 0x10000, 'a' + 0x110000, 128} {
		for _, l := range [][]rune{{'x', 'n', '-', '-', p}, {'x', 'n', '-', '-', 't', 'd', 'a', p}, {'x', 'n', '-', '-', 'a', p, '-'}} {
			isRead(t, x, l, api.Label{Says: l, Coded: true, Fault: api.FaultASCII})
		}
	}
}

// Promise 18.2: what is not coded says itself, with the first of its faults.
func TestReadNotCoded(t *testing.T) {
	x := modelOf(t, someBook()).tables
	for _, c := range []struct {
		l     []rune
		fault int
	}{
		{nil, 0}, {[]rune{'a'}, 0}, {runes("xn-"), 0}, {runes("Xn--tda"), api.FaultStatus}, {runes("XN--tda"), api.FaultStatus}, {runes(" xn--tda"), 0}, {runes("xn-tda"), 0}, {runes("xn\u2010\u2010tda"), api.FaultStatus},
		{[]rune{em, great}, api.FaultMark}, {[]rune{'a', grave, '.'}, api.FaultForm}, {[]rune{'.', zjoiner}, api.FaultStop}, {[]rune{great, zjoiner}, api.FaultStatus}, {[]rune{-1, zjoiner}, api.FaultStatus}, {[]rune{zjoiner}, api.FaultJoiner},
	} {
		isRead(t, x, c.l, api.Label{Says: c.l, Fault: c.fault})
	}
}

// Promise 18.3: what is ASCII alone stands as it is, whatever it is.
func TestASCIIOfASCII(t *testing.T) {
	var all []rune
	for p := rune(0); p < 128; p++ {
		all = append(all, p)
		isCoded(t, []rune{p}, string(p), 0, api.OK)
	}
	isCoded(t, all, string(all), 0, api.OK)
	isCoded(t, nil, "", 0, api.OK)
	isCoded(t, []rune{}, "", 0, api.OK)
	for _, s := range []string{"a", "ABC", "xn--", "xn--bcher-kva", "XN--b", "a.b", "..", "-", "\x00", "\x7f", strings.Repeat("a", 100000)} {
		isCoded(t, runes(s), s, 0, api.OK)
	}
}

// Promise 18.3: what is not ASCII alone is coded.
func TestASCIIOfMore(t *testing.T) {
	for s, want := range map[string]string{"\u0080": "xn--a", "\u00fc": "xn--tda", "b\u00fccher": "xn--bcher-kva", "B\u00fccher": "xn--Bcher-kva", "a\u0300": "xn--a-vbb", "xn--\u00fc": "xn--xn---3ra", "\u00fc.": "xn--.-dha", "-\u00fc": "xn----eha", "\u00fc--": "xn-----wka", "\U0010ffff": "xn--dn32g", "\u0628\u200c\u0628": "xn--ngba799q"} {
		isCoded(t, runes(s), want, 0, api.OK)
	}
	isCoded(t, []rune{0xd7ff, 0xe000}, "xn--hb9bk0m", 0, api.OK)
}

// Promise 18.3: the place of the first one that is no scalar value.
func TestASCIIOfNoScalarValues(t *testing.T) {
	for _, wrong := range []rune{-1, least, most, 0xd800, 0xdbff, 0xdc00, 0xdfff, 0x110000, 'a' - 128, 'a' + 0x110000} {
		for at, ahead := range [][]rune{{}, {'a'}, {udia, 'a'}, {'a', 'b', 'c'}} {
			for _, behind := range [][]rune{{}, {'a'}, {udia}, {wrong}, {-1, 0xd800, 0x110000}} {
				isCoded(t, slices.Concat(ahead, []rune{wrong}, behind), "", at, api.ErrScalar)
			}
		}
	}
}

// Promise 18.3: labels with a number that is too great, and one that is just not.
func TestASCIIOfTooLong(t *testing.T) {
	// Of U+10FFFF behind so many in ASCII delta is (1114111 - 128) times one more, and their number.
	longest := 0
	for 1113983*(longest+2)+longest+1 <= 2147483647 {
		longest++
	}
	ahead := slices.Repeat([]rune{'a'}, longest)
	s, at, e := ASCII(append(slices.Clone(ahead), 0x10ffff))
	if !strings.HasPrefix(s, "xn--"+string(ahead)+"-") || at != 0 || e != api.OK {
		t.Errorf("ASCII: %q, %d, %d", s, at, e)
	}
	ahead = append(ahead, 'a')
	isCoded(t, append(slices.Clone(ahead), 0x10ffff), "", 0, api.ErrPuny)
	isCoded(t, append(slices.Repeat([]rune{'a'}, 5000), 0x10ffff, 'a'), "", 0, api.ErrPuny)
	// What is no scalar value is told ahead of that, wherever it stands.
	isCoded(t, append(slices.Clone(ahead), 0x10ffff, -1), "", len(ahead)+1, api.ErrScalar)
}

// Promise 18.4: names with and without stops.
func TestSplitAndJoin(t *testing.T) {
	for _, c := range []struct {
		name   []rune
		labels [][]rune
	}{
		{nil, [][]rune{nil}}, {[]rune{}, [][]rune{{}}}, {[]rune{46}, [][]rune{nil, nil}}, {[]rune{46, 46, 46}, [][]rune{nil, nil, nil, nil}}, {[]rune{97}, [][]rune{{97}}}, {[]rune{97, 98, 99}, [][]rune{{97, 98, 99}}},
		{[]rune{46, 97}, [][]rune{nil, {97}}}, {[]rune{97, 46}, [][]rune{{97}, nil}}, {[]rune{97, 46, 46}, [][]rune{{97}, nil, nil}}, {[]rune{46, 46, 97, 98}, [][]rune{nil, nil, {97, 98}}},
		{[]rune{97, 98, 46, 99, 46, 46, 100}, [][]rune{{97, 98}, {99}, nil, {100}}},
		// Other stops, and what is one as a byte, do not cut.
		{[]rune{97, 0x3002, 0xff0e, 0xff61, 46 + 256, 46 - 128, 46 + 0x110000, -46, 45, 47}, [][]rune{{97, 0x3002, 0xff0e, 0xff61, 46 + 256, 46 - 128, 46 + 0x110000, -46, 45, 47}}},
		{[]rune{-1, 46, most, least, 46, 0xd800}, [][]rune{{-1}, {most, least}, {0xd800}}},
	} {
		if got := Split(c.name); !slices.EqualFunc(got, c.labels, slices.Equal) {
			t.Errorf("Split(%v): %v, not %v", c.name, got, c.labels)
		}
		if got := Join(c.labels); !slices.Equal(got, c.name) {
			t.Errorf("Join(%v): %v, not %v", c.labels, got, c.name)
		}
	}
	for length := range 7 {
		lists(length, []rune{'.', 'a', -1}, func(name []rune) { isCut(t, name) })
	}
}

// Promise 18.4: what Split does not tell can be put together, too.
func TestJoin(t *testing.T) {
	for _, c := range []struct {
		labels [][]rune
		name   []rune
	}{
		{nil, nil}, {[][]rune{}, nil}, {[][]rune{nil}, nil}, {[][]rune{{}, nil}, []rune{46}}, {[][]rune{nil, nil, nil}, []rune{46, 46}}, {[][]rune{{97}}, []rune{97}}, {[][]rune{{97}, {98, 99}}, []rune{97, 46, 98, 99}},
		{[][]rune{{46}, {46, 97}, {98, 46}}, []rune{46, 46, 46, 97, 46, 98, 46}}, {[][]rune{{-1}, {most}}, []rune{-1, 46, most}},
	} {
		if got := Join(c.labels); !slices.Equal(got, c.name) {
			t.Errorf("Join(%v): %v, not %v", c.labels, got, c.name)
		}
	}
}

// Promise 18.4: the prefix in small and in great letters, cut short, alone, further on, and with other hyphens.
func TestCoded(t *testing.T) {
	for _, l := range [][]rune{runes("xn--"), runes("xn--a"), runes("xn---"), runes("xn--xn--"), runes("xn--\u00fc"), {'x', 'n', '-', '-', -1}, {'x', 'n', '-', '-', 0xd800}} {
		if !Coded(l) {
			t.Errorf("Coded(%v)", l)
		}
	}
	for _, l := range [][]rune{nil, {}, runes("x"), runes("xn"), runes("xn-"), runes("xn-a"), runes("xna-"), runes("xN--"), runes("Xn--"), runes("XN--"), runes("XN--a"), runes("nx--"), runes("-xn--"), runes("axn--"), runes("a.xn--"), runes("xn\u2010\u2010"), runes("xn\u2013"), runes("xn\u2013a"), runes("\uff58n--"), {'x' + 256, 'n', '-', '-'}, {'x', 'n', '-', '-' + 0x110000}, {'x', 'n', '-', '-' - 128}, append(runes("xn"), '-', '-')[:3]} {
		if Coded(l) {
			t.Errorf("Coded(%v)", l)
		}
	}
}

// Promise 18.4: hyphens at each place of labels of nought to five code points, against the places.
func TestHyphens(t *testing.T) {
	for length := range 6 {
		lists(length, []rune{'-', 'a', 0x2010, '-' + 256}, func(l []rune) {
			is := func(i int) bool { return i < length && i >= 0 && l[i] == 45 }
			a, b := Hyphens(l)
			if a != (is(2) && is(3)) || b != (is(0) || is(length-1)) {
				t.Errorf("Hyphens(%v): %v, %v", l, a, b)
			}
		})
	}
	for s, want := range map[string][2]bool{"": {}, "-": {false, true}, "--": {false, true}, "---": {false, true}, "----": {true, true}, "-a": {false, true}, "a-": {false, true}, "a-a": {}, "a--a": {}, "aa--": {true, true}, "aa--a": {true, false}, "aaa--": {false, true}, "aaa--a": {}, "xn--a": {true, false}, "-a--a": {true, true}} {
		if a, b := Hyphens(runes(s)); a != want[0] || b != want[1] {
			t.Errorf("Hyphens(%q): %v, %v", s, a, b)
		}
	}
}

// Promises 18.1 to 18.4: all calls of every short label, by books of all kinds, against the model.
func TestOfAllShortLabels(t *testing.T) {
	for _, b := range someBooks() {
		m := modelOf(t, b)
		for length := range 3 {
			lists(length, somePoints(), func(l []rune) { isAsModel(t, m, l) })
		}
		for length := range 5 {
			lists(length, []rune{'a', em, grave, great, zjoiner, virama, '.', -1}, func(l []rune) { isAsModel(t, m, l) })
		}
	}
}

// Promises 18.2 to 18.4: all calls of every label with something short behind the prefix, and of the prefix with some of it missing.
func TestOfAllShortCodes(t *testing.T) {
	for _, b := range someBooks() {
		m := modelOf(t, b)
		for length := range 4 {
			lists(length, []rune{'a', 'b', 't', 'd', '-', 'A', '9', '0', 'm', '.', udia, -1}, func(l []rune) {
				isAsModel(t, m, slices.Concat(runes(prefix), l))
			})
		}
		for length := range 6 {
			lists(length, []rune{'x', 'n', '-', 'X'}, func(l []rune) { isAsModel(t, m, l) })
		}
	}
}

// Promises 18.1 to 18.4: longer labels, whole and coded, and by the sample book.
func TestOfMany(t *testing.T) {
	from := rand.New(rand.NewSource(181))
	given := sample.Book()
	of := []rune{'a', 'b', 'e', '-', '.', 'A', 'x', 0, 127, 128, 0xad, 0xdf, 0xe0, 0xe9, 0xfc, 0x300, 0x301, 0x323, 0x5d0, 0x627, 0x628, 0x64b, 0x915, 0x93c, 0x94d, 0x958, 0x1100, 0x1161, 0x11a8, 0x1e63, 0x1e69, 0x200c, 0x200d, 0x212b, 0x3002, 0xac00, 0xac01, 0xfe0f, 0x1f600, 0x10ffff}
	for _, c := range []struct {
		book api.Book
		of   []rune
	}{{someBook(), somePoints()}, {someBook(), []rune{'a', grave, em, beh, njoiner, aGrave, udia}}, {withMarkedPrefix(), []rune{'x', 'a', udia, great, zjoiner}}, {given, of}, {given, []rune{'a', 0xe0, 0xfc, 0x915, 0x94d, 0x200d, 0x628}}} {
		m := modelOf(t, c.book)
		for range 1500 {
			l := randomLabel(from, 10, c.of)
			isAsModel(t, m, l)
			isAsModel(t, m, slices.Concat(runes(prefix), l))
			if s, _, e := ASCII(l); e == api.OK {
				isAsModel(t, m, runes(s))
				isAsModel(t, m, runes(strings.ToUpper(s)))
				isAsModel(t, m, runes(prefix+strings.ToUpper(strings.TrimPrefix(s, prefix))))
			}
		}
	}
}

// Promises 18.1 to 18.3: by a book without rows, and by nil tables, no code point is kept, so that what has one is not valid.
func TestWithoutRows(t *testing.T) {
	m := modelOf(t, api.Book{})
	for _, x := range []*book.Tables{nil, m.tables, new(book.Tables)} {
		without := model{api.Book{}, x}
		for length := range 3 {
			lists(length, somePoints(), func(l []rune) { isAsModel(t, without, l) })
		}
		haveFaults(t, x, nil)
		haveFaults(t, x, []rune{'a'}, api.FaultStatus)
		haveFaults(t, x, runes("xn--.\u200d"), api.FaultPrefix, api.FaultStop, api.FaultStatus, api.FaultJoiner)
		haveFaults(t, x, []rune{'a', 0x300}, api.FaultStatus)
		haveFaults(t, x, []rune{0x1100, 0x1161}, api.FaultForm, api.FaultStatus)
		isRead(t, x, runes("xn--bcher-kva"), api.Label{Says: runes("b\u00fccher"), Coded: true, Fault: api.FaultStatus})
		isRead(t, x, runes(prefix), api.Label{Coded: true, Fault: api.FaultPlain})
	}
}

// Promise 18.5: what a coded label without a fault says is valid, not ASCII alone and not empty, and its ASCII is the label, if that has no great letters.
func TestWhatFollowsOfCodedLabels(t *testing.T) {
	for _, b := range append(someBooks(), sample.Book()) {
		m, without := modelOf(t, b), 0
		for length := 1; length < 5; length++ {
			lists(length, []rune{'a', 'b', 'd', 't', 'c', '0', '-', 'K', 'A'}, func(l []rune) {
				l = slices.Concat(runes(prefix), l)
				r := Read(m.tables, l)
				if r.Fault != 0 {
					return
				}
				without++
				if !r.Coded || !Valid(m.tables, r.Says) || isPlain(r.Says) || len(r.Says) == 0 {
					t.Errorf("Read(%v): %v", l, r)
				}
				if !slices.ContainsFunc(l, func(p rune) bool { return p < 'a' && p >= 'A' }) {
					isCoded(t, r.Says, string(l), 0, api.OK)
				}
			})
		}
		if m.kept(udia) && without == 0 {
			t.Error("no coded label was without a fault")
		}
	}
}

// Promise 18.5: a valid label that is not ASCII alone, coded and read, says itself without a fault; each valid label is its own normal form C, the mapping lets it be, and it has no stop.
func TestWhatFollowsOfValidLabels(t *testing.T) {
	for _, b := range []api.Book{someBook(), sample.Book()} {
		m, valid := modelOf(t, b), 0
		for length := range 4 {
			lists(length, []rune{'a', '-', '.', great, grave, aGrave, udia, 223, beh, 0x915, virama, njoiner, zjoiner, 0x10ffff, 0x1100, 0x1161, 0xac00}, func(l []rune) {
				if !Valid(m.tables, l) {
					return
				}
				valid++
				if !slices.Equal(compose.Normal(m.tables, l), l) || !slices.Equal(mapping.Map(m.tables, l), l) || !slices.Equal(mapping.Fold(m.tables, l), l) || slices.Contains(l, 46) || len(Split(l)) != 1 {
					t.Errorf("%v is valid", l)
				}
				if s, _, e := ASCII(l); e != api.OK {
					t.Errorf("ASCII(%v): %d", l, e)
				} else if !isPlain(l) {
					isRead(t, m.tables, runes(s), api.Label{Says: l, Coded: true})
				}
			})
		}
		if valid < 100 {
			t.Errorf("%d labels were valid", valid)
		}
	}
}

// Rule R1: long labels and names end soon.
func TestLong(t *testing.T) {
	const many = 200000
	m := modelOf(t, someBook())
	began := time.Now()
	long := slices.Repeat([]rune{'a', udia}, many)
	haveFaults(t, m.tables, long)
	haveFaults(t, m.tables, slices.Concat(long, []rune{'a', grave, '.', zjoiner, -1}), api.FaultForm, api.FaultStop, api.FaultStatus, api.FaultJoiner)
	s, _, e := ASCII(slices.Concat([]rune{udia}, slices.Repeat([]rune{'a'}, many)))
	if e != api.OK {
		t.Errorf("ASCII: %d", e)
	}
	isRead(t, m.tables, runes(s), api.Label{Says: slices.Concat([]rune{udia}, slices.Repeat([]rune{'a'}, many)), Coded: true})
	isRead(t, m.tables, runes(s+"."), api.Label{Says: runes(s + "."), Coded: true, Fault: api.FaultPuny})
	name := slices.Repeat([]rune{'.', 'a', '.'}, many)
	labels := Split(name)
	if len(labels) != 2*many+1 || !slices.Equal(Join(labels), name) {
		t.Errorf("Split: %d", len(labels))
	}
	if took := time.Since(began); took > 5*time.Second {
		t.Errorf("it took %v", took)
	}
}

// Promises 18.1 to 18.4: the chapter's examples.
func TestExamples(t *testing.T) {
	x := sample.Tables()
	isRead(t, x, runes("xn--bcher-kva"), api.Label{Says: []rune{'b', 252, 'c', 'h', 'e', 'r'}, Coded: true})
	isRead(t, x, runes("xn--a-"), api.Label{Says: runes("a"), Coded: true, Fault: api.FaultPlain})
	isRead(t, x, runes("xn--"), api.Label{Coded: true, Fault: api.FaultPlain})
	isRead(t, x, runes("xn--b"), api.Label{Says: runes("xn--b"), Coded: true, Fault: api.FaultPuny})
	haveFaults(t, x, runes("xn--a"), 2)
	// 768 is kept by the sample book, and not by one that says nothing of its status.
	haveFaults(t, x, []rune{768, 97}, 4)
	haveFaults(t, modelOf(t, api.Book{Status: []api.Value{value(97, api.StatusValid)}, Marks: []api.Span{{From: 768, To: 768}}}).tables, []rune{768, 97}, 4, 5)
	isCoded(t, []rune{98, 252}, "xn--b-eha", 0, api.OK)
	if got := Split([]rune{97, 46, 46}); !slices.EqualFunc(got, [][]rune{{97}, nil, nil}, slices.Equal) {
		t.Errorf("Split: %v", got)
	}
	if a, b := Hyphens([]rune{97, 98, 45, 45}); !a || !b {
		t.Errorf("Hyphens: %v, %v", a, b)
	}
}
