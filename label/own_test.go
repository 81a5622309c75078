package label

import (
	"slices"
	"sync"
	"testing"

	"postern/book"
)

// fill writes over a list, its spare room too.
func fill[E ~int | ~int32](l []E) {
	l = l[:cap(l)]
	for i := range l {
		l[i] = -7
	}
}

// spacious is a list in the midst of a longer one, so that something lies ahead of it and in its spare room.
func spacious(l []rune) (all, inner []rune) {
	all = slices.Concat([]rune{'x', '.'}, l, []rune{'.', 'n', em, '-'})
	return all, all[2 : 2+len(l)]
}

// someLabels is labels with and without faults, coded and not, and names of several.
func someLabels() [][]rune {
	return [][]rune{nil, {}, {'a'}, {em, great}, {'a', grave, '.', zjoiner}, {'.'}, {'.', '.'}, {'a', '.', 'b', udia, '.', '.', 'c'}, {-1, most}, {udia}, runes("xn--"), runes("xn--a-"), runes("xn--b"), runes("xn--tda"), runes("xn--\u00fc"), runes("xn--bcher-kva"), runes("xn--a-vbb.xn--b")}
}

// askAll asks every call of a label.
func askAll(x *book.Tables, l []rune) {
	Faults(x, l)
	Valid(x, l)
	Read(x, l)
	ASCII(l)
	Split(l)
	Coded(l)
	Hyphens(l)
	Join([][]rune{l, l})
}

// Rule R4: what is handed in stays, with its spare room.
func TestWhatIsHandedInStays(t *testing.T) {
	x := modelOf(t, someBook()).tables
	for _, l := range someLabels() {
		all, inner := spacious(l)
		was := slices.Clone(all)
		askAll(x, inner)
		if !slices.Equal(all, was) {
			t.Errorf("%v was changed to %v", was, all)
		}
		labels := [][]rune{inner, nil, inner, {1}, {2}}
		Join(labels[:3])
		if !slices.Equal(all, was) || !slices.EqualFunc(labels, [][]rune{l, nil, l, {1}, {2}}, slices.Equal) {
			t.Errorf("%v was changed by Join to %v, in %v", was, all, labels)
		}
	}
}

// Rule R4: what comes out is the caller's own, with its spare room: it shares nothing with what was handed in, nor with another answer.
func TestWhatComesOutIsOwn(t *testing.T) {
	x := modelOf(t, someBook()).tables
	for _, l := range someLabels() {
		isOwn(t, l, func(l []rune) []int { return Faults(x, l) })
		isOwn(t, l, func(l []rune) []rune { return Read(x, l).Says })
		isOwn(t, l, func(l []rune) []rune { return Join([][]rune{l}) })
		isOwn(t, l, func(l []rune) []rune { return Join([][]rune{l, nil, l}) })
		for i := range Split(l) {
			isOwn(t, l, func(l []rune) []rune { return Split(l)[i] })
		}
	}
}

// isOwn writes over an answer and what was handed in, each with its spare room, and holds against them answers that were asked ahead and one that is asked then.
func isOwn[E ~int | ~int32](t *testing.T, l []rune, ask func([]rune) []E) {
	t.Helper()
	all, inner := spacious(l)
	was := slices.Clone(all)
	first, second := ask(inner), ask(inner)
	want := slices.Clone(second)
	fill(first)
	if !slices.Equal(all, was) {
		t.Errorf("what was handed in, when an answer was written over: %v, not %v", all, was)
	}
	if !slices.Equal(second, want) {
		t.Errorf("of %v, when another answer was written over: %v, not %v", l, second, want)
	}
	fill(all)
	if !slices.Equal(second, want) {
		t.Errorf("of %v, when what was handed in was written over: %v, not %v", l, second, want)
	}
	if again := ask(slices.Clone(l)); !slices.Equal(again, want) {
		t.Errorf("of %v, asked again: %v, not %v", l, again, want)
	}
}

// Rule R4: no two labels of one answer share memory, nor do the labels and the list that they stand in another's.
func TestLabelsOfANameAreApart(t *testing.T) {
	for _, name := range someLabels() {
		want := Split(name)
		for i := range want {
			got := Split(name)
			fill(got[i])
			got[i] = nil
			for k := range got {
				if k != i && !slices.Equal(got[k], want[k]) {
					t.Errorf("Split(%v), when the label %d was written over: %v", name, i, got)
				}
			}
		}
		got := Split(name)
		for i := range got {
			got[i] = append(got[i], 'z')
			for k := i + 1; k < len(got); k++ {
				if !slices.Equal(got[k], want[k]) {
					t.Errorf("Split(%v), when the label %d grew: %v", name, i, got)
				}
			}
		}
	}
}

// Rule R5: tables are not changed by being asked, and may be asked at one time.
func TestAtOneTime(t *testing.T) {
	m := modelOf(t, someBook())
	var all sync.WaitGroup
	for range 8 {
		all.Go(func() {
			for range 30 {
				for _, l := range someLabels() {
					isAsModel(t, m, l)
				}
			}
		})
	}
	all.Wait()
}
