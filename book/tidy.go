package book

import (
	"slices"

	"postern/api"
)

// Tidy is a book that says the same with the fewest rows.
func Tidy(b api.Book) (api.Book, api.Errno) {
	if !mayBe(b) {
		return api.Book{}, api.ErrBook
	}
	scripts := scriptsOf(b.Script)
	return api.Book{
		Names:    namesOf(b.Names, scripts),
		Status:   tidyValues(b.Status),
		Maps:     tidyChars(b.Maps),
		Class:    tidyValues(b.Class),
		Decomp:   copyOfChars(b.Decomp),
		Excluded: tidySpans(b.Excluded),
		Bidi:     tidyValues(withoutNoughts(b.Bidi)),
		Join:     tidyValues(withoutNoughts(b.Join)),
		Marks:    tidySpans(b.Marks),
		Script:   tidyValues(renumbered(b.Script, scripts)),
		Like:     tidyChars(b.Like),
	}, api.OK
}

// namesOf is the names of scripts by their numbers.
func namesOf(names []string, scripts []int) []string {
	out := make([]string, len(scripts))
	for i, n := range scripts {
		out[i] = nameOf(names, n)
	}
	return copyOfNames(out)
}

// renumbered is rows in which each script is numbered by its place among scripts.
func renumbered(rows []api.Value, scripts []int) []api.Value {
	out := slices.Clone(rows)
	for i, r := range out {
		out[i].N = 1 + slices.Index(scripts, r.N)
	}
	return out
}

func withoutNoughts(rows []api.Value) []api.Value {
	return slices.DeleteFunc(slices.Clone(rows), func(r api.Value) bool { return r.N == 0 })
}

func tidyValues(rows []api.Value) []api.Value {
	return tidied(rows, valueSpan, valueOver, func(a, b api.Value) bool { return a.N == b.N })
}

func tidyChars(rows []api.Chars) []api.Chars {
	return tidied(rows, charsSpan, charsOver, func(a, b api.Chars) bool { return slices.Equal(a.Is, b.Is) })
}

func tidySpans(rows []api.Span) []api.Span {
	return tidied(rows, ownSpan, ownOver, func(api.Span, api.Span) bool { return true })
}

// tidied is rows of which neighbours that say the same are one.
func tidied[R any](rows []R, spanOf func(R) api.Span, over func(R, api.Span) R, alike func(a, b R) bool) []R {
	var out []R
	for _, r := range rows {
		s, last := spanOf(r), len(out)-1
		if last >= 0 && spanOf(out[last]).To+1 == s.From && alike(out[last], r) {
			out[last] = over(out[last], api.Span{From: spanOf(out[last]).From, To: s.To})
		} else {
			out = append(out, over(r, s))
		}
	}
	return out
}
