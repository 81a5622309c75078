package compose

import (
	"slices"
	"sync"
	"testing"

	"postern/book"
)

// fill writes over a list, its spare room too.
func fill(l []rune) {
	l = l[:cap(l)]
	for i := range l {
		l[i] = -7
	}
}

// spacious is a list in the midst of a longer one, so that something lies ahead of it and in its spare room.
func spacious(l ...rune) (all, inner []rune) {
	all = slices.Concat([]rune{65, 803}, l, []rune{803, 807, 768, 803})
	return all, all[2 : 2+len(l)]
}

// someNames is names that are changed by what they are given to, and some that are not.
func someNames() [][]rune {
	return [][]rune{nil, {65}, {768, 803}, {65, 768, 803, 66}, {192, 803}, {194}, {4352, 4449, 4520}, {803, 768}, {65, 66}, {-1}, {213, 803, 65, 768}, {65, 803, 768, 66, 807, 803, 768}, {70, 71, 768}}
}

// nameCalls is all calls that make a name of one.
func nameCalls(x *book.Tables) map[string]func([]rune) []rune {
	return map[string]func([]rune) []rune{
		"Compose":                 func(r []rune) []rune { return Compose(x, r) },
		"Normal":                  func(r []rune) []rune { return Normal(x, r) },
		"Append":                  func(r []rune) []rune { return Append(x, r) },
		"Append behind nothing":   func(r []rune) []rune { return Append(x, nil, r...) },
		"Append to itself":        func(r []rune) []rune { return Append(x, r, r...) },
		"Append, with spare room": func(r []rune) []rune { return Append(x, r, 768, 803, 66) },
		"Feed":                    func(r []rune) []rune { return NewComposer(x).Feed(r) },
		"End":                     func(r []rune) []rune { c := NewComposer(x); c.Feed(r); return c.End() },
	}
}

// Rule R4: what is handed in stays, with its spare room.
func TestWhatIsHandedInStays(t *testing.T) {
	x := compiled(t, someBook())
	c := NewComposer(x)
	for _, name := range someNames() {
		all, r := spacious(name...)
		was := slices.Clone(all)
		for what, call := range nameCalls(x) {
			call(r)
			if !slices.Equal(all, was) {
				t.Fatalf("%s changed %v to %v", what, was, all)
			}
		}
		Is(x, r)
		Quick(x, r)
		Parts(x, r)
		Same(x, r, all)
		Differ(x, all, r)
		Longest(x, r)
		Hangul(r)
		c.Feed(r)
		c.Feed(r)
		c.End()
		if !slices.Equal(all, was) {
			t.Errorf("%v was changed to %v", was, all)
		}
	}
}

// Rule R4: what comes out is the caller's own, with its spare room: it shares nothing with what was handed in, nor with another answer.
func TestWhatComesOutIsOwn(t *testing.T) {
	for _, x := range []*book.Tables{compiled(t, someBook()), nil} {
		for _, name := range someNames() {
			for what, call := range nameCalls(x) {
				all, r := spacious(name...)
				was := slices.Clone(all)
				first, second := call(r), call(r)
				want := slices.Clone(second)
				fill(first)
				if !slices.Equal(all, was) {
					t.Errorf("%s of %v shares memory with it", what, was)
				}
				isName(t, what+", when another answer was written over", second, want...)
				fill(all)
				isName(t, what+", when what was handed in was written over", second, want...)
				isName(t, what+", asked again", call(name), want...)
			}
			first, second := Parts(x, name), Parts(x, name)
			for i := range first[:cap(first)] {
				first[:cap(first)][i] = -7
			}
			if !slices.Equal(second, Parts(x, name)) {
				t.Errorf("Parts of %v, when another answer was written over: %v", name, second)
			}
		}
	}
}

// Rule R4: a Composer keeps nothing that it was handed, and nothing that it told.
func TestComposerKeepsItsOwn(t *testing.T) {
	b := someBook()
	x, m := compiled(t, b), modelOf(b)
	c := NewComposer(x)
	for _, r := range [][]rune{{192, 803, 66}, {65, 768, 803, 66, 769, 803, 64}, {768, 803, 65, 66, 807, 44032, 4520, 803}, {65, 66, 64, 69, 768, 803}} {
		cuts(r, func(pieces [][]rune) {
			var told []rune
			for _, piece := range pieces {
				all, inner := spacious(piece...)
				got := c.Feed(inner)
				told = append(told, got...)
				fill(all)
				fill(got)
			}
			end := c.End()
			told = append(told, end...)
			isName(t, "what was told", told, m.normal(r)...)
			// What is fed next must not come to lie in what was told, nor the other way about.
			c.Feed([]rune{768, 803})
			fill(end)
			isName(t, "End behind an end", c.End(), 803, 768)
		})
	}
}

// Rule R4: what a Composer told stays when it is fed on.
func TestWhatWasToldStays(t *testing.T) {
	c := NewComposer(compiled(t, someBook()))
	c.Feed([]rune{65, 768, 803, 807})
	first := c.Feed([]rune{66, 768, 803})
	second := c.Feed([]rune{64, 769})
	third := c.End()
	c.Feed([]rune{69, 803, 65, 66})
	c.Feed([]rune{768, 803, 807, 769})
	c.End()
	isName(t, "the first", first, 195, 803, 768)
	isName(t, "the second", second, 66, 803, 768)
	isName(t, "the third", third, 64, 769)
}

// Rule R5: tables are not changed by being asked, and may be asked at one time.
func TestAtOneTime(t *testing.T) {
	b := someBook()
	x, m := compiled(t, b), modelOf(b)
	want := make([][]rune, len(someNames()))
	for i, r := range someNames() {
		want[i] = m.normal(r)
	}
	var all sync.WaitGroup
	for range 8 {
		all.Go(func() {
			c := NewComposer(x)
			for range 50 {
				for i, r := range someNames() {
					got := Normal(x, r)
					isName(t, "Normal", got, want[i]...)
					fill(got)
					isName(t, "a Composer", append(c.Feed(r), c.End()...), want[i]...)
					isCut(t, x, m, r)
				}
			}
		})
	}
	all.Wait()
}
