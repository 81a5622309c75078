package bidi

import (
	"slices"
	"sync"
	"testing"

	"postern/api"
)

// Rule R4: what is handed in stays, with its spare room.
func TestWhatIsHandedInStays(t *testing.T) {
	x := compiled(t, someBook())
	for _, label := range [][]rune{nil, {l}, {r, nsm, nsm}, {es, l}, {r, l, en, an, es}, {l, an, es}, {-1, most}} {
		all := slices.Concat([]rune{r, ws}, label, []rune{an, l, es})
		was := slices.Clone(all)
		inner := all[2 : 2+len(label)]
		labels := [][]rune{{l}, inner, nil, {r}, {es}, {an, an}}
		name := labels[:4]
		Check(x, inner)
		Rules(x, inner)
		Right(x, inner)
		Strong(x, inner)
		Name(x, name)
		if !slices.Equal(all, was) {
			t.Errorf("%v was changed to %v", was, all)
		}
		for i, want := range [][]rune{{l}, label, nil, {r}, {es}, {an, an}} {
			if !slices.Equal(labels[i], want) {
				t.Errorf("the label %d was changed to %v", i, labels[i])
			}
		}
	}
}

// Rule R4: what comes out is the caller's own, with its spare room.
func TestWhatComesOutIsOwn(t *testing.T) {
	x := compiled(t, someBook())
	for _, label := range [][]rune{nil, {l}, {es}, {r, l}, {r, en, an}, {r, l, en, an, es}, {l, r}, {l, es}} {
		first, second := Rules(x, label), Rules(x, label)
		want := slices.Clone(second)
		first = first[:cap(first)]
		for i := range first {
			first[i] = -7
		}
		if again := Rules(x, label); !slices.Equal(second, want) || !slices.Equal(again, want) {
			t.Errorf("Rules(%v), written over: %v, %v, not %v", label, second, again, want)
		}
	}
}

// Rule R5: tables are not changed by being asked, and may be asked at one time.
func TestAtOneTime(t *testing.T) {
	b := someBook()
	x, m := compiled(t, b), model{b}
	var all sync.WaitGroup
	for range 8 {
		all.Go(func() {
			for range 20 {
				lists(3, []rune{l, r, en, an, es, nsm}, func(label []rune) {
					if got, want := Rules(x, label), m.rules(label); !slices.Equal(got, want) {
						t.Errorf("Rules(%v): %v, not %v", label, got, want)
					}
				})
				isName(t, x, [][]rune{{l}, {r}, {es}, {en}}, api.Bidi{Bidi: true, Label: 2, Rule: 1})
			}
		})
	}
	all.Wait()
}
