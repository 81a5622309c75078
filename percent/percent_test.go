package percent

import (
	"slices"
	"strings"
	"testing"

	"postern/api"
	"postern/octet"
)

// checkDecoded holds all calls that decode against the model.
func checkDecoded(t *testing.T, s string) {
	t.Helper()
	want, strays := wantDecode(s), wantStrays(s)
	if got := Decode(s); got != want {
		t.Errorf("Decode(%q) = %q, want %q", s, got, want)
	}
	if got := Coded(s); got != wantCoded(s) {
		t.Errorf("Coded(%q) = %d, want %d", s, got, wantCoded(s))
	}
	if got := Strays(s); !slices.Equal(got, strays) {
		t.Errorf("Strays(%q) = %v, want %v", s, got, strays)
	}
	at, e := 0, api.OK
	if len(strays) > 0 {
		want, at, e = "", strays[0], api.ErrStray
	}
	if text, place, no := Strict(s); text != want || place != at || no != e {
		t.Errorf("Strict(%q) = %q, %d, %d, want %q, %d, %d", s, text, place, no, want, at, e)
	}
}

// Promise 3.1.
func TestDecode(t *testing.T) {
	for _, c := range []struct {
		s, want string
		coded   int
		strays  []int
	}{
		{"", "", 0, nil},
		{"abc", "abc", 0, nil},
		{"%41%4g%", "A%4g%", 1, []int{3, 6}},
		{"%2541", "%41", 1, nil},
		{"%", "%", 0, []int{0}},
		{"a%", "a%", 0, []int{1}},
		{"%4", "%4", 0, []int{0}},
		{"%41%4", "A%4", 1, []int{3}},
		{"%4x", "%4x", 0, []int{0}},
		{"%4%41", "%4A", 1, []int{0}},
		{"%x4", "%x4", 0, []int{0}},
		{"%%4", "%%4", 0, []int{0, 1}},
		{"%%41", "%A", 1, []int{0}},
		{"%%%", "%%%", 0, []int{0, 1, 2}},
		{"%4a%4A%aF%Af", "JJ\xaf\xaf", 4, nil},
		{"%00%7f%80%ff", "\x00\x7f\x80\xff", 4, nil},
		{"%25%34%31", "%41", 3, nil},
		{"%%34%31", "%41", 2, []int{0}},
		{"%4%31", "%41", 1, []int{0}},
		{"%%2541", "%%41", 1, []int{0}},
		{"+%20 ", "+  ", 1, nil},
		{"%g1%@1%`1%/1%:1%G1", "%g1%@1%`1%/1%:1%G1", 0, []int{0, 3, 6, 9, 12, 15}},
		{"%-1%+1%0x%1_%\xff1%1\xff", "%-1%+1%0x%1_%\xff1%1\xff", 0, []int{0, 3, 6, 9, 12, 15}},
	} {
		if got := Decode(c.s); got != c.want {
			t.Errorf("Decode(%q) = %q, want %q", c.s, got, c.want)
		}
		if got := Coded(c.s); got != c.coded {
			t.Errorf("Coded(%q) = %d, want %d", c.s, got, c.coded)
		}
		if got := Strays(c.s); !slices.Equal(got, c.strays) {
			t.Errorf("Strays(%q) = %v, want %v", c.s, got, c.strays)
		}
		checkDecoded(t, c.s)
	}
}

func TestStrict(t *testing.T) {
	for _, c := range []struct {
		s, want string
		at      int
		e       api.Errno
	}{
		{"", "", 0, api.OK}, {"a", "a", 0, api.OK}, {"%41b%25", "Ab%", 0, api.OK}, {"%2541", "%41", 0, api.OK},
		{"%41%4g%", "", 3, api.ErrStray}, {"%", "", 0, api.ErrStray}, {"%a", "", 0, api.ErrStray}, {"abc%4", "", 3, api.ErrStray},
		{"%%41", "", 0, api.ErrStray}, {"%25%", "", 3, api.ErrStray},
	} {
		if got, at, e := Strict(c.s); got != c.want || at != c.at || e != c.e {
			t.Errorf("Strict(%q) = %q, %d, %d, want %q, %d, %d", c.s, got, at, e, c.want, c.at, c.e)
		}
	}
}

func TestDecodeAgainstTheModel(t *testing.T) {
	someTexts(func(s string) { checkDecoded(t, s) })
}

// Each two bytes behind a percent sign.
func TestDecodeEachPair(t *testing.T) {
	for high := range 256 {
		for low := range 256 {
			checkDecoded(t, string([]byte{'a', '%', byte(high), byte(low), 'b'}))
		}
	}
}

// Promise 3.2, of Encode.
func TestEncode(t *testing.T) {
	for _, c := range []struct {
		s    string
		x    api.Bytes
		want string
	}{
		{"a b%", named(api.SetFragment), "a%20b%"},
		{"a b%", named(api.SetComponent), "a%20b%25"},
		{"%41", api.Bytes{}, "%41"},
		{"%41", octet.Make('%', '%'), "%2541"},
		{"%41", octet.Make('4', '4'), "%%341"},
		{"%2f", octet.Make('a', 'f'), "%2%66"},
		{"", octet.Make(0, 255), ""},
		{"\x00\n\xab\xff", named(api.SetControl), "%00%0A%AB%FF"},
		{"\xe2\x82\xac", named(api.SetPath), "%E2%82%AC"},
		{"a b", octet.Make('a', 'z'), "%61 %62"},
	} {
		if got := Encode(c.s, c.x); got != c.want {
			t.Errorf("Encode(%q, %x) = %q, want %q", c.s, c.x, got, c.want)
		}
	}
}

// Each byte, in each set and alone in one.
func TestEncodeAndNormalOfEachByte(t *testing.T) {
	for b := range 256 {
		s := string([]byte{byte(b)})
		own := octet.Make(byte(b), byte(b))
		written := wantHex(byte(b))
		if got := Encode(s, own); got != written {
			t.Errorf("Encode(%q) with its byte in the set = %q, want %q", s, got, written)
		}
		if got := Encode(s, octet.Minus(octet.Make(0, 255), own)); got != s {
			t.Errorf("Encode(%q) with all others in the set = %q", s, got)
		}
		for _, x := range someSets() {
			if got, want := Encode(s, x), wantEncode(s, x); got != want {
				t.Errorf("Encode(%q, %x) = %q, want %q", s, x, got, want)
			}
			for _, text := range []string{s, written, strings.ToLower(written), written + s, s + written, "%" + s + "%"} {
				if got, want := Normal(text, x), wantNormal(text, x); got != want {
					t.Errorf("Normal(%q, %x) = %q, want %q", text, x, got, want)
				}
			}
		}
	}
}

// Promise 3.2, of Normal.
func TestNormal(t *testing.T) {
	path := named(api.SetPath)
	for _, c := range []struct {
		s    string
		x    api.Bytes
		want string
	}{
		{"%61%2f%%zz", path, "a/%25%25zz"},
		{"", path, ""},
		{"%7b{%7B", path, "%7B%7B%7B"},
		{"%25", api.Bytes{}, "%25"},
		{"%25", path, "%25"},
		{"%2541", path, "%2541"},
		{"%%34%31", path, "%2541"},
		{"%", api.Bytes{}, "%25"},
		{"%4", path, "%254"},
		{"a%4g", path, "a%254g"},
		{"%20 +", path, "%20%20+"},
		{"%41%61", octet.Make('a', 'z'), "A%61"},
		{"%e2\x82%AC", path, "%E2%82%AC"},
		{"%e2\x82", api.Bytes{}, "\xe2\x82"},
		{"%34%31", octet.Make('0', '9'), "%34%31"},
	} {
		if got := Normal(c.s, c.x); got != c.want {
			t.Errorf("Normal(%q, %x) = %q, want %q", c.s, c.x, got, c.want)
		}
	}
}

// Promises 3.2 and 3.5, of all texts and sets.
func TestEncodeAndNormalAgainstTheModel(t *testing.T) {
	fewTexts(func(s string) {
		decoded := wantDecode(s)
		for _, x := range someSets() {
			encoded := Encode(s, x)
			if want := wantEncode(s, x); encoded != want {
				t.Errorf("Encode(%q, %x) = %q, want %q", s, x, encoded, want)
			}
			if inSet(x, '%') && Decode(encoded) != s {
				t.Errorf("Decode of Encode(%q, %x) = %q", s, x, Decode(encoded))
			}
			normal := Normal(s, x)
			if want := wantNormal(s, x); normal != want {
				t.Errorf("Normal(%q, %x) = %q, want %q", s, x, normal, want)
			}
			if again := Normal(normal, x); again != normal {
				t.Errorf("Normal(%q, %x) = %q, and of that %q", s, x, normal, again)
			}
			if Decode(normal) != decoded || len(Strays(normal)) != 0 {
				t.Errorf("Normal(%q, %x) = %q, which says %q, want %q", s, x, normal, Decode(normal), decoded)
			}
		}
		strict := codedStrays(s)
		if Decode(strict) != decoded {
			t.Errorf("%q with its stray signs coded says %q, want %q", s, Decode(strict), decoded)
		}
	})
}

// codedStrays is a text with each stray percent sign as %25.
func codedStrays(s string) string {
	out := ""
	for _, p := range wantParts(s) {
		if p.stray() {
			out += "%25"
		} else {
			out += p.text
		}
	}
	return out
}

// Promise 3.3.
func TestForm(t *testing.T) {
	for _, c := range []struct{ s, want string }{
		{"", ""}, {"a b&%", "a+b%26%25"}, {" ", "+"}, {"+", "%2B"}, {" + ", "+%2B+"}, {"%20", "%2520"}, {"%", "%25"},
		{"*-._09AZaz", "*-._09AZaz"}, {"!'()~", "%21%27%28%29%7E"}, {"=&;", "%3D%26%3B"}, {"\x00\xe2\x82\xac\xff", "%00%E2%82%AC%FF"},
	} {
		if got := Form(c.s); got != c.want {
			t.Errorf("Form(%q) = %q, want %q", c.s, got, c.want)
		}
	}
	for b := range 256 {
		s := string([]byte{byte(b)})
		if got, want := Form(s), wantForm(s); got != want {
			t.Errorf("Form(%q) = %q, want %q", s, got, want)
		}
	}
}

func TestFormDecode(t *testing.T) {
	for _, c := range []struct{ s, want string }{
		{"", ""}, {"a+%2B", "a +"}, {"+", " "}, {"%2b%2B", "++"}, {"%252B", "%2B"}, {"%20+", "  "}, {"%", "%"}, {"%4+", "%4 "}, {"%+41", "% 41"},
		{"a b", "a b"}, {"%41%4g%", "A%4g%"}, {"%ff+\xff", "\xff \xff"}, {"&=%26%3d", "&=&="},
	} {
		if got := FormDecode(c.s); got != c.want {
			t.Errorf("FormDecode(%q) = %q, want %q", c.s, got, c.want)
		}
	}
}

// Promises 3.3 and 3.5, of all texts.
func TestFormsAgainstTheModel(t *testing.T) {
	someTexts(func(s string) {
		formed := Form(s)
		if want := wantForm(s); formed != want {
			t.Errorf("Form(%q) = %q, want %q", s, formed, want)
		}
		if back := FormDecode(formed); back != s {
			t.Errorf("FormDecode(%q) = %q, want %q", formed, back, s)
		}
		if got, want := FormDecode(s), wantFormDecode(s); got != want {
			t.Errorf("FormDecode(%q) = %q, want %q", s, got, want)
		}
	})
}

// Rule R4: a caller may do to an answer, and to the room behind it, what it likes.
func TestStraysMayBeChanged(t *testing.T) {
	for range 3 {
		l := Strays("%41%4g%")
		if !slices.Equal(l, []int{3, 6}) {
			t.Errorf("Strays = %v, want 3, 6", l)
		}
		spoil(l, -1)
	}
}

// Rule R5: a set is a value, and no call changes what the named ones are.
func TestSetsStay(t *testing.T) {
	for name := 1; name <= 10; name++ {
		x := named(name)
		kept := x
		Encode("a b%", x)
		Normal("a b%41%", x)
		Form("a b%")
		if x != kept || named(name) != kept {
			t.Errorf("set %d was %x and is %x, named %x", name, kept, x, named(name))
		}
	}
}

// Rule R1, of long texts.
func TestLongTexts(t *testing.T) {
	const n = 1 << 18
	coded, strays := strings.Repeat("%41", n), strings.Repeat("%", n)
	if got := Decode(coded); got != strings.Repeat("A", n) || Coded(coded) != n {
		t.Errorf("%d coded bytes say %d bytes", n, len(got))
	}
	if Decode(strays) != strays || len(Strays(strays)) != n {
		t.Errorf("of %d stray signs there are %d", n, len(Strays(strays)))
	}
	if got := Normal(strays, api.Bytes{}); got != strings.Repeat("%25", n) {
		t.Errorf("%d stray signs are %d bytes", n, len(got))
	}
	if got := Form(strings.Repeat(" ", n)); got != strings.Repeat("+", n) {
		t.Errorf("%d spaces are %d bytes", n, len(got))
	}
}
