package span

import (
	"math/rand"
	"slices"
	"testing"

	"postern/api"
)

// Promise 7.1: lists that may be, and their one set.
func TestMake(t *testing.T) {
	for _, c := range []struct{ l, want []api.Span }{
		{nil, nil}, {[]api.Span{}, nil},
		{of(5, 9, 1, 2, 3, 4), of(1, 9)},
		{of(7, 7), of(7, 7)}, {of(7, 7, 7, 7), of(7, 7)},
		{of(0, 0), of(0, 0)}, {of(api.MaxPoint, api.MaxPoint), of(api.MaxPoint, api.MaxPoint)}, {of(0, api.MaxPoint), of(0, api.MaxPoint)},
		{of(api.MaxPoint, api.MaxPoint, 0, 0), of(0, 0, api.MaxPoint, api.MaxPoint)},
		{of(api.MaxPoint, api.MaxPoint, 0, api.MaxPoint-1), of(0, api.MaxPoint)},
		{of(1, 5, 5, 9), of(1, 9)}, {of(1, 5, 6, 9), of(1, 9)}, {of(1, 5, 7, 9), of(1, 5, 7, 9)},
		{of(5, 9, 1, 5), of(1, 9)}, {of(6, 9, 1, 5), of(1, 9)}, {of(7, 9, 1, 5), of(1, 5, 7, 9)},
		{of(1, 9, 3, 4), of(1, 9)}, {of(3, 4, 1, 9), of(1, 9)}, {of(1, 9, 1, 4), of(1, 9)}, {of(1, 4, 1, 9), of(1, 9)}, {of(1, 9, 5, 9), of(1, 9)}, {of(1, 9, 1, 9), of(1, 9)},
		{of(1, 9, 3, 4, 8, 12), of(1, 12)}, {of(1, 9, 3, 4, 10, 12), of(1, 12)}, {of(1, 9, 3, 4, 11, 12), of(1, 9, 11, 12)}, {of(1, 9, 3, 4, 6, 7), of(1, 9)},
		{of(9, 9, 7, 7, 5, 5), of(5, 5, 7, 7, 9, 9)}, {of(9, 9, 7, 7, 8, 8), of(7, 9)},
		{of(0xd800, 0xdfff, 0xd7ff, 0xd7ff), of(0xd7ff, 0xdfff)},
	} {
		if x, at, e := Make(c.l...); !alike(x, c.want) || at != 0 || e != api.OK {
			t.Errorf("Make(%v): %v, %d, %d, not %v", c.l, x, at, e, c.want)
		}
	}
}

// Promise 7.1: the first span that may not be, and too many spans ahead of that.
func TestMakeFaults(t *testing.T) {
	good := row(api.MaxSpans, 0, 2, 1)
	with := func(at int, s api.Span) []api.Span {
		l := slices.Clone(good)
		l[at] = s
		return l
	}
	for _, c := range []struct {
		l  []api.Span
		at int
		e  api.Errno
	}{
		{of(5, 4), 0, api.ErrSpan}, {of(1, 0), 0, api.ErrSpan}, {of(0, -1), 0, api.ErrSpan}, {of(-1, 0), 0, api.ErrSpan}, {of(-1, -1), 0, api.ErrSpan}, {of(api.MaxPoint, api.MaxPoint+1), 0, api.ErrSpan}, {of(api.MaxPoint+1, api.MaxPoint+1), 0, api.ErrSpan},
		{of(-1<<31, 1<<31-1), 0, api.ErrSpan}, {of(1<<31-1, 1<<31-1), 0, api.ErrSpan}, {of(-1<<31, -1<<31), 0, api.ErrSpan}, {of(1<<31-1, -1<<31), 0, api.ErrSpan},
		{of(1, 2, 5, 4, 9, 8), 1, api.ErrSpan}, {of(1, 2, 2, 3, 9, 8), 2, api.ErrSpan}, {of(1, 2, 9, 9, -1, 8, 3, 4), 2, api.ErrSpan},
		{with(0, api.Span{From: 1}), 0, api.ErrSpan}, {with(api.MaxSpans-1, api.Span{From: 1}), api.MaxSpans - 1, api.ErrSpan},
		{append(slices.Clone(good), api.Span{}), api.MaxSpans, api.ErrSpans}, {append(with(3, api.Span{From: 1}), api.Span{}), api.MaxSpans, api.ErrSpans}, {append(slices.Clone(good), api.Span{From: 1}), api.MaxSpans, api.ErrSpans},
		{make([]api.Span, api.MaxSpans+1), api.MaxSpans, api.ErrSpans}, {make([]api.Span, 3*api.MaxSpans), api.MaxSpans, api.ErrSpans},
	} {
		if x, at, e := Make(c.l...); len(x) != 0 || at != c.at || e != c.e {
			t.Errorf("Make(%.60v): %d spans, %d, %d, not %d, %d", c.l[:min(len(c.l), 5)], len(x), at, e, c.at, c.e)
		}
	}
	if x, at, e := Make(good...); !alike(x, good) || at != 0 || e != api.OK {
		t.Errorf("Make of MaxSpans spans: %d spans, %d, %d", len(x), at, e)
	}
	slices.Reverse(good)
	if x, at, e := Make(good...); !alike(x, row(api.MaxSpans, 0, 2, 1)) || at != 0 || e != api.OK {
		t.Errorf("Make of MaxSpans spans backwards: %d spans, %d, %d", len(x), at, e)
	}
	if x, at, e := Make(make([]api.Span, api.MaxSpans)...); !alike(x, of(0, 0)) || at != 0 || e != api.OK {
		t.Errorf("Make of one span MaxSpans times: %v, %d, %d", x, at, e)
	}
}

// Promise 7.1: many lists in any order; and 7.5: Make of a set is it.
func TestMakeOfMany(t *testing.T) {
	r := rand.New(rand.NewSource(71))
	for i := range 200 {
		l := some(r, i%30)
		x, at, e := Make(l...)
		if want := worldOf(l).list(); !alike(x, want) || at != 0 || e != api.OK {
			t.Fatalf("Make(%v): %v, %d, %d, not %v", l, x, at, e, want)
		}
		if again, at, e := Make(x...); !Is(x) || !alike(again, x) || at != 0 || e != api.OK {
			t.Fatalf("Make of the set %v: %v, %d, %d", x, again, at, e)
		}
	}
}

// Promise 7.1: what is a set, and what is none.
func TestIs(t *testing.T) {
	for _, x := range [][]api.Span{
		nil, {}, of(0, 0), of(api.MaxPoint, api.MaxPoint), of(0, api.MaxPoint), of(1, 2, 4, 5), of(1, 1, 3, 3), of(0, 0, 2, 2, 4, api.MaxPoint), of(0, api.MaxPoint-2, api.MaxPoint, api.MaxPoint), of(0xd800, 0xdfff),
		row(api.MaxSpans, 0, 2, 1), row(api.MaxSpans, 1, 17, 16), row(api.MaxSpans, api.MaxPoint+1-2*api.MaxSpans, 2, 1),
	} {
		if !Is(x) {
			t.Errorf("Is(%v) of %d spans: false", x[:min(len(x), 5)], len(x))
		}
	}
	for name, l := range noSets() {
		if Is(l) {
			t.Errorf("Is of a list that is %s: true", name)
		}
	}
}

// Promise 7.2: what all calls say of lists that are no sets.
func TestNoSets(t *testing.T) {
	good := of(0, 100)
	for name, l := range noSets() {
		for _, p := range []rune{-1 << 31, -1, 0, 1, 2, 3, 4, 5, 9, api.MaxPoint, api.MaxPoint + 1, 1<<31 - 1} {
			if Has(l, p) || Place(l, p) != -1 || Next(l, p) != -1 {
				t.Errorf("%s, %d: %v, %d, %d", name, p, Has(l, p), Place(l, p), Next(l, p))
			}
		}
		if Within(l, good) || Within(good, l) || Within(l, l) || Within(nil, l) || Within(l, nil) || Count(l) != 0 || At(l, 0) != -1 || At(l, 1) != -1 || At(l, -1) != -1 {
			t.Errorf("%s: asked", name)
		}
		for range All(l) {
			t.Fatalf("%s: All goes over something", name)
		}
		if s, e := Text(l); s != "" || e != api.ErrSpan {
			t.Errorf("%s: Text %q, %d", name, s, e)
		}
		if x, e := Other(l); len(x) != 0 || e != api.ErrSpan {
			t.Errorf("%s: Other %v, %d", name, x, e)
		}
		for _, pair := range [][2][]api.Span{{l, good}, {good, l}, {l, l}, {nil, l}, {l, nil}} {
			x, e := Cross(pair[0], pair[1])
			y, f := Minus(pair[0], pair[1])
			if len(x) != 0 || len(y) != 0 || e != api.ErrSpan || f != api.ErrSpan {
				t.Errorf("%s: Cross %v, %d; Minus %v, %d", name, x, e, y, f)
			}
		}
	}
}

// Promise 7.2: Union tells the first one that is no set, and that ahead of too many spans.
func TestUnionOfNoSets(t *testing.T) {
	good, many, more := of(0, 100), row(api.MaxSpans, 0, 2, 1), row(api.MaxSpans, 1<<18, 2, 1)
	for name, l := range noSets() {
		for i, sets := range [][][]api.Span{{l, good, l}, {good, l, l}, {many, more, l}, {good, nil, good, l, good, l}} {
			if x, at, e := Union(sets...); len(x) != 0 || at != i || e != api.ErrSpan {
				t.Errorf("%s: Union %d spans, %d, %d, not at %d", name, len(x), at, e, i)
			}
		}
		if x, at, e := Union(l); len(x) != 0 || at != 0 || e != api.ErrSpan {
			t.Errorf("%s: Union of it alone %v, %d, %d", name, x, at, e)
		}
	}
}

// Promise 7.3: sets put together, by name.
func TestTogether(t *testing.T) {
	all, last := of(0, api.MaxPoint), of(api.MaxPoint, api.MaxPoint)
	for _, c := range []struct{ a, b, union, cross, minus []api.Span }{
		{nil, nil, nil, nil, nil}, {nil, of(1, 9), of(1, 9), nil, nil}, {of(1, 9), nil, of(1, 9), nil, of(1, 9)},
		{of(1, 9), of(3, 4), of(1, 9), of(3, 4), of(1, 2, 5, 9)}, {of(3, 4), of(1, 9), of(1, 9), of(3, 4), nil}, {of(1, 9), of(1, 9), of(1, 9), of(1, 9), nil},
		{of(1, 5), of(5, 9), of(1, 9), of(5, 5), of(1, 4)}, {of(1, 5), of(6, 9), of(1, 9), nil, of(1, 5)}, {of(1, 5), of(7, 9), of(1, 5, 7, 9), nil, of(1, 5)}, {of(7, 9), of(1, 5), of(1, 5, 7, 9), nil, of(7, 9)},
		{of(1, 9), of(1, 1), of(1, 9), of(1, 1), of(2, 9)}, {of(1, 9), of(9, 9), of(1, 9), of(9, 9), of(1, 8)}, {of(1, 9), of(1, 1, 9, 9), of(1, 9), of(1, 1, 9, 9), of(2, 8)}, {of(5, 5), of(5, 5), of(5, 5), of(5, 5), nil},
		{of(1, 3, 5, 7), of(4, 4), of(1, 7), nil, of(1, 3, 5, 7)}, {of(1, 3, 5, 7), of(2, 6), of(1, 7), of(2, 3, 5, 6), of(1, 1, 7, 7)}, {of(1, 1, 3, 3, 5, 5), of(2, 2, 4, 4), of(1, 5), nil, of(1, 1, 3, 3, 5, 5)},
		{all, of(0, 0), all, of(0, 0), of(1, api.MaxPoint)}, {all, last, all, last, of(0, api.MaxPoint-1)}, {of(0, 0), last, of(0, 0, api.MaxPoint, api.MaxPoint), nil, of(0, 0)}, {all, all, all, all, nil},
		{of(0, api.MaxPoint-1), last, all, nil, of(0, api.MaxPoint-1)}, {last, of(0, api.MaxPoint-2), of(0, api.MaxPoint-2, api.MaxPoint, api.MaxPoint), nil, last},
	} {
		if x, at, e := Union(c.a, c.b); !alike(x, c.union) || at != 0 || e != api.OK {
			t.Errorf("Union(%v, %v): %v, %d, %d", c.a, c.b, x, at, e)
		}
		if x, e := Cross(c.a, c.b); !alike(x, c.cross) || e != api.OK {
			t.Errorf("Cross(%v, %v): %v, %d", c.a, c.b, x, e)
		}
		if x, e := Minus(c.a, c.b); !alike(x, c.minus) || e != api.OK {
			t.Errorf("Minus(%v, %v): %v, %d", c.a, c.b, x, e)
		}
		if Within(c.a, c.b) != (len(c.minus) == 0) {
			t.Errorf("Within(%v, %v): %v", c.a, c.b, Within(c.a, c.b))
		}
	}
}

// Promise 7.3: Union of none, of one and of many.
func TestUnion(t *testing.T) {
	for _, c := range []struct {
		l    [][]api.Span
		want []api.Span
	}{
		{nil, nil}, {[][]api.Span{{}}, nil}, {[][]api.Span{nil, {}, nil}, nil}, {[][]api.Span{of(1, 2, 4, 5)}, of(1, 2, 4, 5)}, {[][]api.Span{of(9, 9), of(1, 2), of(3, 4), nil, of(5, 8)}, of(1, 9)}, {[][]api.Span{of(5, 5), of(3, 3), of(1, 1)}, of(1, 1, 3, 3, 5, 5)},
	} {
		if x, at, e := Union(c.l...); !alike(x, c.want) || at != 0 || e != api.OK {
			t.Errorf("Union(%v): %v, %d, %d", c.l, x, at, e)
		}
	}
	var each [][]api.Span
	for i := range 1000 {
		each = append(each, row(5, rune(i*7%1000), 2000, 1))
	}
	if x, at, e := Union(each...); !alike(x, row(5, 0, 2000, 1000)) || at != 0 || e != api.OK {
		t.Errorf("Union of a thousand: %v, %d, %d", x[:min(len(x), 9)], at, e)
	}
}

// Promise 7.3: Other by name.
func TestOther(t *testing.T) {
	for _, c := range []struct{ x, want []api.Span }{
		{nil, of(0, api.MaxPoint)}, {of(0, api.MaxPoint), nil}, {of(0, 0), of(1, api.MaxPoint)}, {of(api.MaxPoint, api.MaxPoint), of(0, api.MaxPoint-1)}, {of(1, api.MaxPoint), of(0, 0)}, {of(0, api.MaxPoint-1), of(api.MaxPoint, api.MaxPoint)}, {of(1, api.MaxPoint-1), of(0, 0, api.MaxPoint, api.MaxPoint)},
		{of(5, 6, 8, 9), of(0, 4, 7, 7, 10, api.MaxPoint)}, {of(0, 3, 5, 5), of(4, 4, 6, api.MaxPoint)},
	} {
		if x, e := Other(c.x); !alike(x, c.want) || e != api.OK {
			t.Errorf("Other(%v): %v, %d", c.x, x, e)
		}
	}
}

// Promise 7.3: MaxSpans spans that come out, and one more.
func TestLimits(t *testing.T) {
	half, all := api.MaxSpans/2, of(0, api.MaxPoint)
	even, odd, far := row(api.MaxSpans, 0, 2, 1), row(api.MaxSpans, 1, 2, 1), row(api.MaxSpans, 1<<18, 2, 1)
	for _, c := range []struct {
		name string
		n    int
		make func() ([]api.Span, api.Errno)
	}{
		{"Union, just enough", api.MaxSpans, func() ([]api.Span, api.Errno) { return united(t, even[:half], even[half:]) }},
		{"Union of one, just enough", api.MaxSpans, func() ([]api.Span, api.Errno) { return united(t, even) }},
		{"Union, one more", -1, func() ([]api.Span, api.Errno) { return united(t, even, far[:1]) }},
		{"Union, many more", -1, func() ([]api.Span, api.Errno) { return united(t, even, far) }},
		{"Union, many more on the way", 1, func() ([]api.Span, api.Errno) { return united(t, even, far, nil, all) }},
		{"Union, filled up", 1, func() ([]api.Span, api.Errno) { return united(t, odd, even) }},
		{"Cross, just enough", api.MaxSpans, func() ([]api.Span, api.Errno) { return Cross(row(half+1, 0, 4, 3), row(half, 2, 4, 3)) }},
		{"Cross, one more", -1, func() ([]api.Span, api.Errno) { return Cross(row(half+1, 0, 4, 3), row(half+1, 2, 4, 3)) }},
		{"Cross with itself", api.MaxSpans, func() ([]api.Span, api.Errno) { return Cross(even, even) }},
		{"Minus, just enough", api.MaxSpans, func() ([]api.Span, api.Errno) { return Minus(all, odd[1:]) }},
		{"Minus, one more", -1, func() ([]api.Span, api.Errno) { return Minus(all, odd) }},
		{"Minus, little left of what has many others", 1, func() ([]api.Span, api.Errno) { return Minus(of(4, 5), odd) }},
		{"Other, just enough", api.MaxSpans, func() ([]api.Span, api.Errno) { return Other(even) }},
		{"Other, just enough at the last", api.MaxSpans, func() ([]api.Span, api.Errno) { return Other(row(api.MaxSpans, api.MaxPoint+2-2*api.MaxSpans, 2, 1)) }},
		{"Other, one more", -1, func() ([]api.Span, api.Errno) { return Other(odd) }},
	} {
		x, e := c.make()
		if c.n < 0 && (len(x) != 0 || e != api.ErrSpans) || c.n >= 0 && (len(x) != c.n || e != api.OK || !Is(x)) {
			t.Errorf("%s: %d spans, %d", c.name, len(x), e)
		}
	}
	if !Within(of(3, 3), odd) || Within(of(3, 4), odd) || !Within(odd, all) || !Within(odd, odd) {
		t.Error("Within of sets with many others")
	}
}

// united is Union, which tells the place 0 unless a list is no set.
func united(t *testing.T, l ...[]api.Span) ([]api.Span, api.Errno) {
	t.Helper()
	x, at, e := Union(l...)
	if at != 0 {
		t.Errorf("Union tells the place %d", at)
	}
	return x, e
}
