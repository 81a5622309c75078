package joiner

import (
	"slices"
	"sync"
	"testing"
)

// Rule R4: what is handed in stays, with its spare room.
func TestWhatIsHandedInStays(t *testing.T) {
	x := compiled(t, someBook())
	for _, label := range [][]rune{nil, {'a'}, {n}, {d, tr, n, tr, d}, {vu, j, n, 'a'}, {n, 'a', j, 'b', n}, {-1, most}} {
		all := slices.Concat([]rune{d, n}, label, []rune{j, d, n})
		was := slices.Clone(all)
		inner := all[2 : 2+len(label)]
		for i := -1; i <= len(inner); i++ {
			Allowed(x, inner, i)
		}
		Check(x, inner)
		All(x, inner)
		Shapes(x, inner)
		Strip(inner)
		if !slices.Equal(all, was) {
			t.Errorf("%v was changed to %v", was, all)
		}
	}
}

// Rule R4: what comes out is the caller's own, with its spare room.
func TestWhatComesOutIsOwn(t *testing.T) {
	x := compiled(t, someBook())
	for _, label := range [][]rune{nil, {}, {'a'}, {n}, {d, tr, n, tr, d}, {vu, j, n, 'a'}, {n, 'a', j, 'b', n}, {'a', 'b', 'c', n}} {
		was := slices.Clone(label)
		isOwn(t, label, func() []int { return All(x, label) })
		isOwn(t, label, func() []int { return Shapes(x, label) })
		isOwn(t, label, func() []rune { return Strip(label) })
		if !slices.Equal(label, was) {
			t.Errorf("%v was changed to %v", was, label)
		}
	}
}

// isOwn writes over an answer and its spare room, and holds against it one that was asked ahead and one that is asked then.
func isOwn[E rune | int](t *testing.T, label []rune, ask func() []E) {
	t.Helper()
	first, second := ask(), ask()
	want := slices.Clone(second)
	first = first[:cap(first)]
	for i := range first {
		first[i] = -7
	}
	if again := ask(); !slices.Equal(second, want) || !slices.Equal(again, want) {
		t.Errorf("of %v, written over: %v, %v, not %v", label, second, again, want)
	}
}

// Rule R5: tables are not changed by being asked, and may be asked at one time.
func TestAtOneTime(t *testing.T) {
	b := someBook()
	x, m := compiled(t, b), model{b}
	label := []rune{vu, j, d, tr, n, tr, d, n, u}
	var all sync.WaitGroup
	for range 8 {
		all.Go(func() {
			for range 200 {
				isAsModel(t, x, m, label)
			}
		})
	}
	all.Wait()
}
