package span

import (
	"math/rand"
	"testing"

	"postern/api"
)

// made is a set of spans that may be.
func made(t *testing.T, l ...api.Span) []api.Span {
	t.Helper()
	x, at, e := Make(l...)
	if at != 0 || e != api.OK {
		t.Fatalf("Make(%v): %d, %d", l, at, e)
	}
	return x
}

// Promise 7.3 of many sets, code point by code point; and 7.5.
func TestSetsOfMany(t *testing.T) {
	r := rand.New(rand.NewSource(73))
	for i := range 120 {
		a, b, c := made(t, some(r, i%17)...), made(t, some(r, i%13)...), made(t, some(r, i%5)...)
		inA, inB, inC := worldOf(a), worldOf(b), worldOf(c)
		union, at, e := Union(a, b, c)
		if want := worldBy(func(p rune) bool { return inA[p] || inB[p] || inC[p] }).list(); !alike(union, want) || at != 0 || e != api.OK {
			t.Fatalf("Union(%v, %v, %v): %v, %d, %d", a, b, c, union, at, e)
		}
		cross, e := Cross(a, b)
		if want := worldBy(func(p rune) bool { return inA[p] && inB[p] }).list(); !alike(cross, want) || e != api.OK {
			t.Fatalf("Cross(%v, %v): %v, %d", a, b, cross, e)
		}
		minus, e := Minus(a, b)
		if want := worldBy(func(p rune) bool { return inA[p] && !inB[p] }).list(); !alike(minus, want) || e != api.OK {
			t.Fatalf("Minus(%v, %v): %v, %d", a, b, minus, e)
		}
		other, e := Other(b)
		if want := worldBy(func(p rune) bool { return !inB[p] }).list(); !alike(other, want) || e != api.OK {
			t.Fatalf("Other(%v): %v, %d", b, other, e)
		}
		if Within(a, b) != (len(minus) == 0) || !Within(cross, a) || !Within(cross, b) || !Within(a, union) || !Within(minus, a) || len(minus) > 0 && Within(a, cross) {
			t.Fatalf("Within of %v, %v", a, b)
		}
		follows(t, a, b)
	}
}

// Promise 7.5: what follows of two sets.
func follows(t *testing.T, a, b []api.Span) {
	t.Helper()
	other, _ := Other(b)
	if again, e := Other(other); !alike(again, b) || e != api.OK {
		t.Errorf("Other of Other of %v: %v, %d", b, again, e)
	}
	minus, _ := Minus(a, b)
	if x, e := Cross(a, other); !alike(x, minus) || e != api.OK {
		t.Errorf("Cross(%v, Other(%v)): %v, %d, not %v", a, b, x, e, minus)
	}
	union, _, _ := Union(a, b)
	cross, _ := Cross(a, b)
	if Count(a)+Count(b) != Count(union)+Count(cross) {
		t.Errorf("%v, %v: counts %d, %d, %d, %d", a, b, Count(a), Count(b), Count(union), Count(cross))
	}
	s, e := Text(a)
	x, at, f := Parse(s)
	if !alike(x, a) || at != 0 || e != api.OK || f != api.OK {
		t.Errorf("Parse of Text of %v: %v, %d, %d", a, x, at, f)
	}
}

// Promise 7.3: what single code points are asked, of many sets.
func TestAskedOfMany(t *testing.T) {
	r := rand.New(rand.NewSource(74))
	for i := range 40 {
		x := made(t, some(r, i%12)...)
		points := worldOf(x).points()
		if Count(x) != len(points) {
			t.Fatalf("Count(%v): %d, not %d", x, Count(x), len(points))
		}
		if At(x, -1) != -1 || At(x, len(points)) != -1 {
			t.Fatalf("At(%v) beyond: %d, %d", x, At(x, -1), At(x, len(points)))
		}
		below := 0
		for p := rune(-2); p < api.MaxPoint+3; p++ {
			for below < len(points) && points[below] < p {
				below++
			}
			if p > 100 && p < 0xffe0 || p > 0x10050 && p < 0x10ffc0 {
				continue
			}
			asked(t, x, points, below, p)
		}
		at := 0
		for p := range All(x) {
			if at == len(points) || p != points[at] {
				t.Fatalf("All(%v): %d at %d", x, p, at)
			}
			at++
		}
		if at != len(points) {
			t.Fatalf("All(%v): %d code points", x, at)
		}
	}
}

// asked holds what a set says of p against its code points, of which so many are below p.
func asked(t *testing.T, x []api.Span, points []rune, below int, p rune) {
	t.Helper()
	next, has := rune(-1), false
	if below < len(points) {
		next, has = points[below], points[below] == p
	}
	place := -1
	if has {
		place = below
	}
	if Has(x, p) != has || Next(x, p) != next || Place(x, p) != place {
		t.Fatalf("%v, %d: %v, %d, %d", x, p, Has(x, p), Next(x, p), Place(x, p))
	}
	if has && At(x, Place(x, p)) != p {
		t.Fatalf("At(%v, %d): %d, not %d", x, place, At(x, place), p)
	}
}

// Promise 7.3: single code points by name, what is in no set and what is no code point among them.
func TestAsked(t *testing.T) {
	x, all := of(1, 2, 9, 9, api.MaxPoint-1, api.MaxPoint), of(0, api.MaxPoint)
	for _, c := range []struct {
		x     []api.Span
		p     rune
		has   bool
		place int
		next  rune
	}{
		{nil, 0, false, -1, -1}, {nil, -1, false, -1, -1}, {nil, api.MaxPoint, false, -1, -1},
		{of(1, 9), 9, true, 8, 9}, {of(1, 9), 3, true, 2, 3}, {of(1, 9), 1, true, 0, 1}, {of(1, 9), 0, false, -1, 1}, {of(1, 9), 10, false, -1, -1}, {of(1, 2, 9, 9), 3, false, -1, 9},
		{x, -1 << 31, false, -1, 1}, {x, -1, false, -1, 1}, {x, 0, false, -1, 1}, {x, 1, true, 0, 1}, {x, 2, true, 1, 2}, {x, 3, false, -1, 9}, {x, 8, false, -1, 9}, {x, 9, true, 2, 9}, {x, 10, false, -1, api.MaxPoint - 1}, {x, api.MaxPoint - 2, false, -1, api.MaxPoint - 1}, {x, api.MaxPoint - 1, true, 3, api.MaxPoint - 1}, {x, api.MaxPoint, true, 4, api.MaxPoint}, {x, api.MaxPoint + 1, false, -1, -1}, {x, 1<<31 - 1, false, -1, -1},
		{all, -1, false, -1, 0}, {all, 0, true, 0, 0}, {all, 0xd800, true, 0xd800, 0xd800}, {all, api.MaxPoint, true, api.MaxPoint, api.MaxPoint}, {all, api.MaxPoint + 1, false, -1, -1},
	} {
		if Has(c.x, c.p) != c.has || Place(c.x, c.p) != c.place || Next(c.x, c.p) != c.next {
			t.Errorf("%v, %d: %v, %d, %d", c.x, c.p, Has(c.x, c.p), Place(c.x, c.p), Next(c.x, c.p))
		}
	}
	for _, c := range []struct {
		x    []api.Span
		i    int
		want rune
	}{
		{nil, 0, -1}, {nil, -1, -1}, {of(1, 9), 2, 3}, {of(1, 9), 8, 9}, {of(1, 9), 9, -1}, {of(1, 9), -1, -1},
		{x, 0, 1}, {x, 1, 2}, {x, 2, 9}, {x, 3, api.MaxPoint - 1}, {x, 4, api.MaxPoint}, {x, 5, -1}, {x, -1 << 63, -1}, {x, 1<<63 - 1, -1}, {x, 1 << 32, -1}, {all, 0, 0}, {all, api.MaxPoint, api.MaxPoint}, {all, api.MaxPoint + 1, -1},
	} {
		if p := At(c.x, c.i); p != c.want {
			t.Errorf("At(%v, %d): %d, not %d", c.x, c.i, p, c.want)
		}
	}
	if Count(nil) != 0 || Count(of(1, 9)) != 9 || Count(x) != 5 || Count(all) != api.MaxPoint+1 || Count(row(api.MaxSpans, 0, 2, 1)) != api.MaxSpans {
		t.Error("Count:", Count(nil), Count(of(1, 9)), Count(x), Count(all))
	}
	for _, c := range []struct {
		a, b []api.Span
		want bool
	}{{nil, nil, true}, {nil, x, true}, {x, nil, false}, {x, x, true}, {x, all, true}, {all, x, false}, {of(2, 2, 9, 9), x, true}, {of(2, 3), x, false}, {of(1, 9), x, false}, {of(0, 0), x, false}, {of(1, 1, api.MaxPoint, api.MaxPoint), x, true}} {
		if Within(c.a, c.b) != c.want {
			t.Errorf("Within(%v, %v): %v", c.a, c.b, !c.want)
		}
	}
}

// Promise 7.3: All is left in the middle, gone over again, and nested.
func TestAll(t *testing.T) {
	all := All(of(1, 3, 5, 5, 7, 8))
	points := []rune{1, 2, 3, 5, 7, 8}
	for left := range len(points) + 1 {
		n := 0
		for p := range all {
			if p != points[n] {
				t.Fatalf("the code point at %d: %d", n, p)
			}
			if n++; n == left {
				break
			}
		}
		if want := left; n != want && !(left == 0 && n == len(points)) {
			t.Fatalf("left at %d: %d code points", left, n)
		}
	}
	var pairs [][2]rune
	for p := range all {
		for q := range all {
			pairs = append(pairs, [2]rune{p, q})
		}
	}
	for i, pair := range pairs {
		if pair != [2]rune{points[i/len(points)], points[i%len(points)]} {
			t.Fatalf("nested: %v", pairs)
		}
	}
	if len(pairs) != len(points)*len(points) {
		t.Fatalf("nested: %d pairs", len(pairs))
	}
	for range All(nil) {
		t.Fatal("the empty set has something")
	}
	n := rune(0)
	for p := range All(of(0, api.MaxPoint)) {
		if p != n {
			t.Fatalf("%d in the place of %d", p, n)
		}
		n++
	}
	if n != api.MaxPoint+1 {
		t.Fatalf("All of all: %d code points", n)
	}
}
