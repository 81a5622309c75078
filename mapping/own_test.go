package mapping

import (
	"slices"
	"sync"
	"testing"

	"postern/book"
	"postern/compose"
)

// fill writes over a list, its spare room too.
func fill[E ~int | ~int32](l []E) {
	l = l[:cap(l)]
	for i := range l {
		l[i] = -7
	}
}

// spacious is a list in the midst of a longer one, so that something lies ahead of it and in its spare room.
func spacious(l ...rune) (all, inner []rune) {
	all = slices.Concat([]rune{65, 173}, l, []rune{66, 173, 803, 70})
	return all, all[2 : 2+len(l)]
}

// someNames is names that are changed by what they are given to, and some that are not.
func someNames() [][]rune {
	return [][]rune{nil, {97}, {65}, {173}, {173, 200}, {66}, {77, 77}, {97, 98, 99}, {68, 65}, {189, 173, 223}, {128, 223, -1, 128, 223}, {97, 768, 803, 65}, {0x10ffff, 0xd804}, {78, 79}}
}

// nameCalls is all calls that make a name of one.
func nameCalls(x *book.Tables) map[string]func([]rune) []rune {
	return map[string]func([]rune) []rune{
		"Map":        func(r []rune) []rune { return Map(x, r) },
		"Fold":       func(r []rune) []rune { return Fold(x, r) },
		"Feed":       func(r []rune) []rune { return NewMapper(x).Feed(r) },
		"Feed again": func(r []rune) []rune { m := NewMapper(x); m.Feed(r); return m.Feed(r) },
	}
}

// placeCalls is all calls that tell places of a name.
func placeCalls(x *book.Tables) map[string]func([]rune) []int {
	return map[string]func([]rune) []int{
		"Sources":    func(r []rune) []int { return Sources(x, r) },
		"Disallowed": func(r []rune) []int { return Disallowed(x, r) },
		"Deviations": func(r []rune) []int { return Deviations(x, r) },
	}
}

// Rule R4: what is handed in stays, with its spare room.
func TestWhatIsHandedInStays(t *testing.T) {
	x := compiled(t, someBook())
	m := NewMapper(x)
	for _, name := range someNames() {
		all, r := spacious(name...)
		was := slices.Clone(all)
		for what, call := range nameCalls(x) {
			call(r)
			if !slices.Equal(all, was) {
				t.Fatalf("%s changed %v to %v", what, was, all)
			}
		}
		for _, call := range placeCalls(x) {
			call(r)
		}
		Changes(x, r)
		Same(x, r, all)
		Same(x, all, r)
		Closed(x, r...)
		m.Feed(r)
		m.Feed(r)
		if !slices.Equal(all, was) {
			t.Errorf("%v was changed to %v", was, all)
		}
	}
}

// Rule R4: what comes out is the caller's own, with its spare room: it shares nothing with what was handed in, nor with another answer, nor with the tables.
func TestWhatComesOutIsOwn(t *testing.T) {
	for _, x := range []*book.Tables{compiled(t, someBook()), nil} {
		for _, name := range someNames() {
			for what, call := range nameCalls(x) {
				all, r := spacious(name...)
				was := slices.Clone(all)
				first, second := call(r), call(r)
				want := slices.Clone(second)
				fill(first)
				isList(t, what+": what was handed in, when an answer was written over", all, was...)
				isList(t, what+", when another answer was written over", second, want...)
				fill(all)
				isList(t, what+", when what was handed in was written over", second, want...)
				isList(t, what+", asked again", call(name), want...)
			}
			for what, call := range placeCalls(x) {
				first, second := call(name), call(name)
				want := slices.Clone(second)
				fill(first)
				isList(t, what+", when another answer was written over", second, want...)
				isList(t, what+", asked again", call(name), want...)
			}
		}
	}
}

// Rule R4: a Mapper keeps nothing that it was handed, and nothing that it told; and what it told stays when it is fed on.
func TestMapperKeepsItsOwn(t *testing.T) {
	b := someBook()
	x, m := compiled(t, b), model{b}
	for _, r := range someNames() {
		cuts(r, func(pieces [][]rune) {
			spoilt, read := NewMapper(x), NewMapper(x)
			var told [][]rune
			for _, piece := range pieces {
				all, inner := spacious(piece...)
				got := spoilt.Feed(inner)
				fill(all)
				fill(got)
				fill(Sources(x, piece))
				told = append(told, read.Feed(piece))
			}
			checkPlaces(t, "written over", spoilt, len(r), m.sources(r))
			isList(t, "what was told, in all", slices.Concat(told...), m.mapped(r)...)
		})
	}
}

// Rule R5: tables are not changed by being asked, and may be asked at one time.
func TestAtOneTime(t *testing.T) {
	b := someBook()
	x, m := compiled(t, b), model{b}
	var folded [][]rune
	for _, r := range someNames() {
		folded = append(folded, compose.Normal(x, m.mapped(r)))
	}
	var all sync.WaitGroup
	for range 8 {
		all.Go(func() {
			for range 50 {
				for i, r := range someNames() {
					got := Fold(x, r)
					isList(t, "Fold", got, folded[i]...)
					fill(got)
					isAsModel(t, x, m, r)
					checkFed(t, x, m, [][]rune{r, r})
				}
			}
		})
	}
	all.Wait()
}
