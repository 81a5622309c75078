package octet

import (
	"math"
	"slices"
	"strings"
	"testing"

	"postern/api"
)

// someSets are sets of all sorts, the named ones with them.
func someSets() []api.Bytes {
	l := []api.Bytes{
		{}, {1}, {0, 0, 0, 1 << 63}, {1 << 63, 1, 1 << 63, 1}, {math.MaxUint64, math.MaxUint64, math.MaxUint64, math.MaxUint64},
		{0xaaaaaaaaaaaaaaaa, 0x5555555555555555, 0x123456789abcdef0, 0x0f0f0f0f0f0f0f0f}, Make('a', 'z', '-', '.'), Make(60, 200),
	}
	for name := 1; name <= 10; name++ {
		x, _ := Named(name)
		l = append(l, x)
	}
	return l
}

// mustBe holds a set against what each byte should be in it, by the set's bits and by Has.
func mustBe(t *testing.T, what string, x api.Bytes, in func(b byte) bool) {
	t.Helper()
	for i := range 256 {
		b := byte(i)
		bit := x[i/64]&(uint64(1)<<(i%64)) != 0
		if bit != in(b) || Has(x, b) != in(b) {
			t.Errorf("%s: byte %d: bit %v, Has %v, want %v", what, i, bit, Has(x, b), in(b))
		}
	}
}

func TestMake(t *testing.T) {
	ends := []byte{0, 1, 31, 32, 63, 64, 65, 97, 126, 127, 128, 191, 192, 254, 255}
	mores := [][]byte{nil, {}, {0}, {255}, {63, 64}, {'a', '-', 'a'}, {191, 192, 0, 255}}
	for _, from := range ends {
		for _, to := range ends {
			for _, more := range mores {
				mustBe(t, "Make", Make(from, to, more...), func(b byte) bool {
					return from <= b && b <= to || slices.Contains(more, b)
				})
			}
		}
	}
}

func TestMakeWithFromAboveTo(t *testing.T) {
	if x := Make(1, 0); x != (api.Bytes{}) {
		t.Errorf("Make(1, 0) = %v", x)
	}
	if x := Make(255, 0, 'x', 'y'); Members(x) != "xy" {
		t.Errorf("Make(255, 0, x, y) = %q", Members(x))
	}
	if x := Make(7, 7); Members(x) != "\x07" {
		t.Errorf("Make(7, 7) = %q", Members(x))
	}
}

func TestHas(t *testing.T) {
	for _, x := range someSets() {
		for i := range 256 {
			if got, want := Has(x, byte(i)), x[i/64]>>(i%64)&1 == 1; got != want {
				t.Errorf("Has(%x, %d) = %v, want %v", x, i, got, want)
			}
		}
	}
}

func TestUnion(t *testing.T) {
	if x := Union(); x != (api.Bytes{}) {
		t.Errorf("Union of no sets = %v", x)
	}
	if x := Union([]api.Bytes{}...); x != (api.Bytes{}) {
		t.Errorf("Union of an empty list = %v", x)
	}
	sets := someSets()
	for _, a := range sets {
		if x := Union(a); x != a {
			t.Errorf("Union of one set %x = %x", a, x)
		}
		for _, b := range sets {
			mustBe(t, "Union of two", Union(a, b), func(c byte) bool { return Has(a, c) || Has(b, c) })
		}
	}
	mustBe(t, "Union of three", Union(Make('a', 'b'), Make('9', '9'), Make(200, 201)), func(c byte) bool {
		return strings.IndexByte("ab9\xc8\xc9", c) >= 0
	})
}

func TestCrossAndMinus(t *testing.T) {
	for _, a := range someSets() {
		for _, b := range someSets() {
			mustBe(t, "Cross", Cross(a, b), func(c byte) bool { return Has(a, c) && Has(b, c) })
			mustBe(t, "Minus", Minus(a, b), func(c byte) bool { return Has(a, c) && !Has(b, c) })
		}
	}
}

// Promise 1.5, of sets.
func TestMinusAndCrossArePartsOfOne(t *testing.T) {
	for _, a := range someSets() {
		for _, b := range someSets() {
			less, both := Minus(a, b), Cross(a, b)
			if Cross(less, both) != (api.Bytes{}) {
				t.Errorf("Minus and Cross of %x and %x share a byte", a, b)
			}
			if Union(less, both) != a {
				t.Errorf("Minus and Cross of %x and %x do not make up the first", a, b)
			}
		}
	}
}

func TestMembers(t *testing.T) {
	if s := Members(api.Bytes{}); s != "" {
		t.Errorf("Members of the empty set = %q", s)
	}
	if s := Members(Make('a', 'c', '-')); s != "-abc" {
		t.Errorf("Members = %q, want -abc", s)
	}
	if s := Members(Make(254, 255, 0, 255, 128, 127)); s != "\x00\x7f\x80\xfe\xff" {
		t.Errorf("Members = %q", s)
	}
	for _, x := range someSets() {
		s := Members(x)
		for i := 1; i < len(s); i++ {
			if s[i-1] >= s[i] {
				t.Errorf("Members(%x) does not rise at %d", x, i)
			}
		}
		if Make(1, 0, []byte(s)...) != x {
			t.Errorf("Members(%x) = %q, which is another set", x, s)
		}
	}
}

func TestFind(t *testing.T) {
	host, _ := Named(api.SetHost)
	for _, c := range []struct {
		s    string
		x    api.Bytes
		from int
		want int
	}{
		{"a:b", host, 0, 1}, {"a:b", host, 1, 1}, {"a:b", host, 2, -1}, {"a:b", host, 3, -1}, {"a:b", host, 4, -1},
		{"a:b", host, -1, 1}, {":", host, -5, 0}, {"a:b", host, math.MinInt, 1}, {"a:b", host, math.MaxInt, -1},
		{"::", host, 1, 1}, {"", host, 0, -1}, {"", host, -1, -1}, {"", host, 1, -1}, {"abc", host, 0, -1},
		{"a:b", api.Bytes{}, 0, -1}, {"a\xff", Make(255, 255), 0, 1}, {"a\x00", Make(0, 0), 0, 1}, {"\u00fc", Make(0xbc, 0xbc), 0, 1},
	} {
		if got := Find(c.s, c.x, c.from); got != c.want {
			t.Errorf("Find(%q, %x, %d) = %d, want %d", c.s, c.x, c.from, got, c.want)
		}
	}
}

func TestFindAndAllAgainstBytes(t *testing.T) {
	for _, s := range texts() {
		for _, x := range someSets() {
			for _, from := range []int{-2, -1, 0, 1, 2, len(s) - 1, len(s), len(s) + 1} {
				want := -1
				for i := range len(s) {
					if want < 0 && i >= from && Has(x, s[i]) {
						want = i
					}
				}
				if got := Find(s, x, from); got != want {
					t.Errorf("Find(%.40q, %x, %d) = %d, want %d", s, x, from, got, want)
				}
			}
			outside := Find(s, Minus(Make(0, 255), x), 0)
			if got := All(s, x); got != (outside < 0) {
				t.Errorf("All(%.40q, %x) = %v, but a byte outside stands at %d", s, x, got, outside)
			}
		}
	}
}

func TestAll(t *testing.T) {
	path, _ := Named(api.SetPath)
	for _, c := range []struct {
		s    string
		x    api.Bytes
		want bool
	}{
		{"", api.Bytes{}, true}, {"", path, true}, {"a", api.Bytes{}, false}, {"?^", path, true}, {"?^a", path, false},
		{"a?", path, false}, {"\x00\xff", path, true}, {"abc", Make('a', 'c'), true}, {"abd", Make('a', 'c'), false},
	} {
		if got := All(c.s, c.x); got != c.want {
			t.Errorf("All(%q, %x) = %v, want %v", c.s, c.x, got, c.want)
		}
	}
}

// Rule R4: what is handed in is not changed, what lies behind its end neither.
func TestListsHandedInStay(t *testing.T) {
	room := []byte{'c', 'a', 'b', 'z', 'y'}
	Make('0', '9', room[:3]...)
	if string(room) != "cabzy" {
		t.Errorf("Make changed its bytes to %q", room)
	}
	sets := []api.Bytes{{1}, {2}, {4}}
	Union(sets[:2]...)
	if sets[0] != (api.Bytes{1}) || sets[1] != (api.Bytes{2}) || sets[2] != (api.Bytes{4}) {
		t.Errorf("Union changed its sets to %v", sets)
	}
	a, b := api.Bytes{7, 7}, api.Bytes{2, 5}
	Cross(a, b)
	Minus(a, b)
	if a != (api.Bytes{7, 7}) || b != (api.Bytes{2, 5}) {
		t.Errorf("Cross or Minus changed its sets to %v, %v", a, b)
	}
}
