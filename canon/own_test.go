package canon

import (
	"fmt"
	"slices"
	"sync"
	"testing"

	"postern/book"
)

// fill writes over a list, its spare room too.
func fill(l []rune) {
	l = l[:cap(l)]
	for i := range l {
		l[i] = -7
	}
}

// spacious is a list in the midst of a longer one, so that something lies ahead of it and in its spare room.
func spacious(l ...rune) (all, inner []rune) {
	all = slices.Concat([]rune{803, 768}, l, []rune{803, 807, 768, 803})
	return all, all[2 : 2+len(l)]
}

// someLists is lists that are changed by what they are given to, and some that are not.
func someLists() [][]rune {
	return [][]rune{nil, {65}, {768, 803}, {65, 768, 803, 66}, {192, 803}, {194}, {44033, 768, 803}, {803, 768}, {65, 66}, {-1}, {837, 803, 65, 768}, {65, 803, 768, 66, 807, 803, 768}}
}

// listCalls is all calls that make a list of one.
func listCalls(x *book.Tables) map[string]func([]rune) []rune {
	return map[string]func([]rune) []rune{
		"Order":     func(l []rune) []rune { return Order(x, l) },
		"Decompose": func(l []rune) []rune { return Decompose(x, l) },
		"Feed":      func(l []rune) []rune { return NewDecomposer(x).Feed(l) },
		"End":       func(l []rune) []rune { d := NewDecomposer(x); d.Feed(l); return d.End() },
	}
}

// Rule R4: what is handed in stays, with its spare room.
func TestWhatIsHandedInStays(t *testing.T) {
	x := compiled(t, someBook())
	d := NewDecomposer(x)
	for _, list := range someLists() {
		all, l := spacious(list...)
		was := slices.Clone(all)
		for what, call := range listCalls(x) {
			call(l)
			if !slices.Equal(all, was) {
				t.Fatalf("%s changed %v to %v", what, was, all)
			}
		}
		Ordered(x, l)
		Equivalent(x, l, l)
		Equivalent(x, l, all)
		d.Feed(l)
		d.Feed(l)
		d.End()
		if !slices.Equal(all, was) {
			t.Errorf("%v was changed to %v", was, all)
		}
	}
}

// Rule R4: what comes out is the caller's own, with its spare room: it shares nothing with what was handed in, nor with another answer.
func TestWhatComesOutIsOwn(t *testing.T) {
	for _, x := range []*book.Tables{compiled(t, someBook()), nil} {
		for _, list := range someLists() {
			for what, call := range listCalls(x) {
				all, l := spacious(list...)
				was := slices.Clone(all)
				first, second := call(l), call(l)
				want := slices.Clone(second)
				fill(first)
				if !slices.Equal(all, was) {
					t.Errorf("%s of %v shares memory with it", what, was)
				}
				isList(t, what+", when another answer was written over", second, want...)
				fill(all)
				isList(t, what+", when what was handed in was written over", second, want...)
				isList(t, what+", asked again", call(list), want...)
			}
		}
		for _, p := range somePoints() {
			first, second := Full(x, p), Full(x, p)
			want := slices.Clone(second)
			fill(first)
			isList(t, fmt.Sprintf("Full(%d), when another answer was written over", p), second, want...)
			isList(t, fmt.Sprintf("Full(%d), asked again", p), Full(x, p), want...)
		}
	}
}

// Rule R4: a Decomposer keeps nothing that it was handed, and nothing that it told.
func TestDecomposerKeepsItsOwn(t *testing.T) {
	b := someBook()
	x, m := compiled(t, b), modelOf(b)
	d := NewDecomposer(x)
	for _, l := range [][]rune{{192, 803, 66}, {65, 768, 803, 66, 769, 803, 64}, {768, 803, 65, 66, 807, 44033, 768, 803}, {65, 66, 64, 69, 768, 803}} {
		cuts(l, func(pieces [][]rune) {
			var told []rune
			for _, piece := range pieces {
				all, inner := spacious(piece...)
				got := d.Feed(inner)
				told = append(told, got...)
				fill(all)
				fill(got)
			}
			end := d.End()
			told = append(told, end...)
			isList(t, fmt.Sprint(pieces), told, m.decompose(l)...)
			// What is fed next must not come to lie in what was told, nor the other way about.
			d.Feed([]rune{768, 803})
			fill(end)
			isList(t, "End behind an end", d.End(), 803, 768)
		})
	}
}

// Rule R4: what a Decomposer told stays when it is fed on.
func TestWhatWasToldStays(t *testing.T) {
	d := NewDecomposer(compiled(t, someBook()))
	d.Feed([]rune{65, 768, 803, 807})
	first := d.Feed([]rune{66, 768, 803})
	second := d.Feed([]rune{64, 769})
	third := d.End()
	d.Feed([]rune{69, 803, 65, 66})
	d.Feed([]rune{768, 803, 807, 769})
	d.End()
	isList(t, "the first", first, 65, 807, 803, 768)
	isList(t, "the second", second, 66, 803, 768)
	isList(t, "the third", third, 64, 769)
}

// Rule R5: tables are not changed by being asked, and may be asked at one time.
func TestAtOneTime(t *testing.T) {
	b := someBook()
	x, m := compiled(t, b), modelOf(b)
	want := make([][]rune, len(someLists()))
	for i, l := range someLists() {
		want[i] = m.decompose(l)
	}
	var all sync.WaitGroup
	for range 8 {
		all.Go(func() {
			d := NewDecomposer(x)
			for range 50 {
				for i, l := range someLists() {
					got := Decompose(x, l)
					isList(t, "Decompose", got, want[i]...)
					fill(got)
					isList(t, "a Decomposer", append(d.Feed(l), d.End()...), want[i]...)
				}
			}
		})
	}
	all.Wait()
}
