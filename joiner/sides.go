package joiner

import (
	"iter"
	"slices"

	"postern/api"
	"postern/book"
)

// sides are the joinings of the next ones ahead of a place and behind it that are not T. Where nothing comes it is U, which joins as little.
type sides struct{ ahead, behind int }

// sidesAt looks out from one place.
func sidesAt(t *book.Tables, label []rune, i int) sides {
	return sides{firstOf(t, slices.Backward(label[:i])), firstOf(t, slices.All(label[i+1:]))}
}

func firstOf(t *book.Tables, points iter.Seq2[int, rune]) int {
	for _, p := range points {
		if n := t.Join(p); n != api.JoinT {
			return n
		}
	}
	return api.JoinU
}

// sidesOf looks out from each place, but walks once each way: from each place anew, a long run of T would be gone over again and again.
func sidesOf(t *book.Tables, label []rune) []sides {
	all := make([]sides, len(label))
	last := api.JoinU
	for i, p := range label {
		all[i].ahead = last
		last = over(last, t.Join(p))
	}
	last = api.JoinU
	for i, p := range slices.Backward(label) {
		all[i].behind = last
		last = over(last, t.Join(p))
	}
	return all
}

// over goes on to another code point, and over it if it is T.
func over(last, n int) int {
	if n == api.JoinT {
		return last
	}
	return n
}

// wouldJoin tells whether both sides would join, were no non-joiner between. C is none of them, unlike in joins: only letters that join by themselves are parted.
func (s sides) wouldJoin() bool {
	return (s.ahead == api.JoinL || s.ahead == api.JoinD) && (s.behind == api.JoinR || s.behind == api.JoinD)
}

// shapeOf is the form of what has the joining n between these sides.
func (s sides) shapeOf(n int) int {
	ahead, behind := joins(s.ahead, n), joins(n, s.behind)
	switch {
	case n == api.JoinU || n == api.JoinT:
		return api.ShapeNone
	case ahead && behind:
		return api.ShapeMiddle
	case ahead:
		return api.ShapeLast
	case behind:
		return api.ShapeFirst
	}
	return api.ShapeAlone
}

// joins tells whether two neighbours join: one that joins what is behind it, and one that joins what is ahead.
func joins(one, other int) bool {
	return (one == api.JoinL || one == api.JoinD || one == api.JoinC) && (other == api.JoinR || other == api.JoinD || other == api.JoinC)
}
