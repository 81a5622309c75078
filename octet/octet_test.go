package octet

import (
	"strings"
	"testing"

	"postern/api"
)

// texts are texts that every promise on texts is held against.
func texts() []string {
	var all strings.Builder
	for b := range 256 {
		all.WriteByte(byte(b))
	}
	return []string{
		"", "a", "Z", "@AZ[", "`az{", "EXAMPLE%2Ecom", "x\x00\xff\x80Y", "b\u00fcCH\u00c4r", "\u212a\u017f", all.String(),
		strings.Repeat("Aa0~", 1000),
	}
}

// wantClass tells the classes by lists of bytes, as the chapter does.
func wantClass(b byte) int {
	const digits, upper, lower = "0123456789", "ABCDEFGHIJKLMNOPQRSTUVWXYZ", "abcdefghijklmnopqrstuvwxyz"
	const hex, signs = "0123456789ABCDEFabcdef", "!\"#$%&'()*+,-./:;<=>?@[\\]^_`{|}~"
	lists := []struct {
		members string
		class   int
	}{{digits, 1}, {upper, 2}, {lower, 4}, {hex, 8}, {signs, 64}, {" ", 128}}
	class := 0
	for _, l := range lists {
		if strings.IndexByte(l.members, b) >= 0 {
			class |= l.class
		}
	}
	if b <= 31 || b == 127 {
		class |= 16
	}
	if b >= 128 {
		class |= 32
	}
	return class
}

func TestClassOfEachByte(t *testing.T) {
	for i := range 256 {
		if got, want := Class(byte(i)), wantClass(byte(i)); got != want {
			t.Errorf("Class(%d) = %d, want %d", i, got, want)
		}
	}
}

func TestClassEdges(t *testing.T) {
	for _, c := range []struct {
		b    byte
		want int
	}{
		{0, 16}, {31, 16}, {32, 128}, {33, 64}, {'/', 64}, {'0', 9}, {'7', 9}, {'9', 9}, {':', 64}, {'@', 64},
		{'A', 10}, {'F', 10}, {'G', 2}, {'Z', 2}, {'[', 64}, {'`', 64}, {'a', 12}, {'f', 12}, {'g', 4}, {'z', 4},
		{'{', 64}, {126, 64}, {127, 16}, {128, 32}, {255, 32},
	} {
		if got := Class(c.b); got != c.want {
			t.Errorf("Class(%d) = %d, want %d", c.b, got, c.want)
		}
	}
}

func TestOf(t *testing.T) {
	for _, c := range []struct {
		s    string
		want int
	}{
		{"", 0}, {"a ~", 204}, {"7", 9}, {"G", 2}, {"gg", 4}, {"\x00\x7f", 16}, {"\u00fc", 32}, {"Aa", 14}, {"0g", 13},
	} {
		if got := Of(c.s); got != c.want {
			t.Errorf("Of(%q) = %d, want %d", c.s, got, c.want)
		}
	}
	for _, s := range texts() {
		want := 0
		for i := range len(s) {
			want |= wantClass(s[i])
		}
		if got := Of(s); got != want {
			t.Errorf("Of(%q) = %d, want %d", s, got, want)
		}
	}
}

// wantLetters is a text with each byte of one list as the byte of the other list at the same place.
func wantLetters(s, from, to string) string {
	var out strings.Builder
	for i := range len(s) {
		if at := strings.IndexByte(from, s[i]); at >= 0 {
			out.WriteByte(to[at])
		} else {
			out.WriteByte(s[i])
		}
	}
	return out.String()
}

func TestLowerAndUpper(t *testing.T) {
	const small, great = "abcdefghijklmnopqrstuvwxyz", "ABCDEFGHIJKLMNOPQRSTUVWXYZ"
	for _, s := range texts() {
		if got, want := Lower(s), wantLetters(s, great, small); got != want {
			t.Errorf("Lower(%q) = %q, want %q", s, got, want)
		}
		if got, want := Upper(s), wantLetters(s, small, great); got != want {
			t.Errorf("Upper(%q) = %q, want %q", s, got, want)
		}
	}
	if got := Lower("\u00c4Z\xc4"); got != "\u00c4z\xc4" {
		t.Errorf("Lower changed what is no letter of ASCII: %q", got)
	}
	if got := Upper("\u00e4z\xe4"); got != "\u00e4Z\xe4" {
		t.Errorf("Upper changed what is no letter of ASCII: %q", got)
	}
}

func TestFold(t *testing.T) {
	for _, c := range []struct {
		a, b string
		want bool
	}{
		{"", "", true}, {"", "a", false}, {"aB", "Ab", true}, {"a", "b", false}, {"a", "aa", false}, {"A%z", "a%Z", true},
		{"@", "`", false}, {"[", "{", false}, {"k", "\u212a", false}, {"\u00e4", "\u00c4", false}, {"\xff", "\xff", true},
		{"\x00A", "\x00a", true}, {"0", "\x10", false},
	} {
		if got := Fold(c.a, c.b); got != c.want {
			t.Errorf("Fold(%q, %q) = %v, want %v", c.a, c.b, got, c.want)
		}
	}
	for a := range 256 {
		for b := range 256 {
			x, y := string([]byte{byte(a)}), string([]byte{byte(b)})
			if got, want := Fold(x, y), Lower(x) == Lower(y); got != want {
				t.Errorf("Fold(%q, %q) = %v, want %v", x, y, got, want)
			}
		}
	}
}

// Promise 1.5, of letters.
func TestLowerOfUpper(t *testing.T) {
	for _, s := range texts() {
		if got, want := Lower(Upper(s)), Lower(s); got != want {
			t.Errorf("Lower(Upper(%q)) = %q, want %q", s, got, want)
		}
	}
}

// The numbers in api are the chapter's; what is built must not lean on others.
func TestNumbersOfClassesAndErrors(t *testing.T) {
	classes := []int{api.ClassDigit, api.ClassUpper, api.ClassLower, api.ClassHex, api.ClassControl, api.ClassHigh, api.ClassSign, api.ClassSpace}
	for i, c := range classes {
		if c != 1<<i {
			t.Errorf("class %d is %d", i, c)
		}
	}
	errnos := []api.Errno{api.ErrName, api.ErrBase, api.ErrDigit, api.ErrGreat}
	for i, e := range errnos {
		if int(e) != 10+i {
			t.Errorf("error %d is %d", 10+i, e)
		}
	}
}
