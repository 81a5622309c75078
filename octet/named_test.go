package octet

import (
	"math"
	"strings"
	"testing"

	"postern/api"
)

// wantSet is a named set by its bytes; whether it has all of SetControl is a flag, as most of those bytes are no signs.
type wantSet struct {
	name    int
	bytes   string
	control bool
}

func wantNamed() []wantSet {
	return []wantSet{
		{api.SetControl, "", true},
		{api.SetFragment, " \"<>`", true},
		{api.SetQuery, " \"#<>", true},
		{api.SetSpecialQuery, " \"#'<>", true},
		{api.SetPath, " \"#<>?^`{}", true},
		{api.SetUser, " \"#/:;<=>?@[\\]^`{|}", true},
		{api.SetComponent, " \"#$%&+,/:;<=>?@[\\]^`{|}", true},
		{api.SetForm, " !\"#$%&'()+,/:;<=>?@[\\]^`{|}~", true},
		{api.SetHost, "\x00\t\n\r #/:<>?@[\\]^|", false},
		{api.SetDomain, "\x00\x01\x02\x03\x04\x05\x06\x07\x08\x09\x0a\x0b\x0c\x0d\x0e\x0f" +
			"\x10\x11\x12\x13\x14\x15\x16\x17\x18\x19\x1a\x1b\x1c\x1d\x1e\x1f #%/:<>?@[\\]^|\x7f", false},
	}
}

func TestNamedSets(t *testing.T) {
	for i, w := range wantNamed() {
		if w.name != i+1 {
			t.Errorf("set %d has the name %d", i+1, w.name)
		}
		x, e := Named(i + 1)
		if e != api.OK {
			t.Errorf("Named(%d): error %d", i+1, e)
		}
		for n := range 256 {
			b := byte(n)
			want := strings.IndexByte(w.bytes, b) >= 0 || w.control && (b < 32 || b > 126)
			if got := Has(x, b); got != want {
				t.Errorf("set %d: byte %d: %v, want %v", i+1, n, got, want)
			}
		}
	}
}

func TestNamedWithNoSuchName(t *testing.T) {
	for _, name := range []int{math.MinInt, -1, 0, 11, 12, 256 + 1, math.MaxInt} {
		if x, e := Named(name); x != (api.Bytes{}) || e != api.ErrName {
			t.Errorf("Named(%d) = %v, %d, want the empty set and ErrName", name, x, e)
		}
	}
}

// Promise 1.5, of named sets.
func TestNamedSetsInOneAnother(t *testing.T) {
	for _, c := range []struct{ part, whole int }{
		{api.SetControl, api.SetControl}, {api.SetControl, api.SetFragment}, {api.SetControl, api.SetQuery},
		{api.SetControl, api.SetSpecialQuery}, {api.SetControl, api.SetPath}, {api.SetControl, api.SetUser},
		{api.SetControl, api.SetComponent}, {api.SetControl, api.SetForm}, {api.SetQuery, api.SetSpecialQuery},
		{api.SetQuery, api.SetPath}, {api.SetPath, api.SetUser}, {api.SetUser, api.SetComponent},
		{api.SetComponent, api.SetForm}, {api.SetHost, api.SetDomain},
	} {
		part, _ := Named(c.part)
		whole, _ := Named(c.whole)
		if part == (api.Bytes{}) || Minus(part, whole) != (api.Bytes{}) {
			t.Errorf("set %d has not all of set %d: %q is left", c.whole, c.part, Members(Minus(part, whole)))
		}
	}
}

// Rule R5: a set that was changed by its owner is not the one that is handed out next.
func TestNamedSetsAreNew(t *testing.T) {
	for name := 1; name <= 10; name++ {
		first, _ := Named(name)
		kept := first
		for i := range first {
			first[i] = ^first[i]
		}
		if again, _ := Named(name); again != kept {
			t.Errorf("Named(%d) was %x and is %x", name, kept, again)
		}
	}
}
