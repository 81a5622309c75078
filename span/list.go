package span

import (
	"cmp"
	"slices"

	"postern/api"
)

// size is how many code points a span has.
func size(s api.Span) int { return int(s.To-s.From) + 1 }

func count(x []api.Span) int {
	n := 0
	for _, s := range x {
		n += size(s)
	}
	return n
}

// reaching is the place of the first span of a set that reaches a code point or lies above it.
func reaching(x []api.Span, p rune) int {
	i, _ := slices.BinarySearchFunc(x, p, func(s api.Span, p rune) int { return cmp.Compare(s.To, p) })
	return i
}

func has(x []api.Span, p rune) bool {
	i := reaching(x, p)
	return i < len(x) && x[i].From <= p
}

// merged is the set of spans in any order.
func merged(l []api.Span) []api.Span {
	sorted := slices.Clone(l)
	slices.SortFunc(sorted, func(a, b api.Span) int { return cmp.Compare(a.From, b.From) })
	var out []api.Span
	for _, s := range sorted {
		out = joined(out, s)
	}
	return out
}

// joined is a set with a span more, which begins at its last one or above that.
func joined(x []api.Span, s api.Span) []api.Span {
	last := len(x) - 1
	if last < 0 || s.From > x[last].To+1 {
		return append(x, s)
	}
	x[last].To = max(x[last].To, s.To)
	return x
}

// together is what is in one set at least. By halves, as one by one each set would be held against all that lies ahead of it.
func together(l [][]api.Span) []api.Span {
	switch len(l) {
	case 0:
		return nil
	case 1:
		return slices.Clone(l[0])
	}
	half := len(l) / 2
	return either(together(l[:half]), together(l[half:]))
}

// either is what is in one of two sets at least.
func either(a, b []api.Span) []api.Span {
	var out []api.Span
	for len(a)+len(b) > 0 {
		if len(a) == 0 || len(b) > 0 && b[0].From < a[0].From {
			a, b = b, a
		}
		out, a = joined(out, a[0]), a[1:]
	}
	return out
}

// common is what is in both sets.
func common(a, b []api.Span) []api.Span {
	var out []api.Span
	for len(a) > 0 && len(b) > 0 {
		s := api.Span{From: max(a[0].From, b[0].From), To: min(a[0].To, b[0].To)}
		if s.From <= s.To {
			out = append(out, s)
		}
		if a[0].To < b[0].To {
			a = a[1:]
		} else {
			b = b[1:]
		}
	}
	return out
}

// rest is what is not in a set.
func rest(x []api.Span) []api.Span {
	var out []api.Span
	next := rune(0)
	for _, s := range x {
		if next < s.From {
			out = append(out, api.Span{From: next, To: s.From - 1})
		}
		next = s.To + 1
	}
	if next <= api.MaxPoint {
		out = append(out, api.Span{From: next, To: api.MaxPoint})
	}
	return out
}
