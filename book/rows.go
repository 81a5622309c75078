package book

import (
	"cmp"
	"slices"
	"strings"

	"postern/api"
)

// The code points of a row of each kind: what all rows have is asked by one function for all kinds, which takes one of these.

func valueSpan(r api.Value) api.Span { return api.Span{From: r.From, To: r.To} }

func charsSpan(r api.Chars) api.Span { return api.Span{From: r.From, To: r.To} }

func ownSpan(r api.Span) api.Span { return r }

// What a row of each kind says, said of other code points, in memory of its own.

func valueOver(r api.Value, s api.Span) api.Value {
	return api.Value{From: s.From, To: s.To, N: r.N}
}

func charsOver(r api.Chars, s api.Span) api.Chars {
	return api.Chars{From: s.From, To: s.To, Is: slices.Clone(r.Is)}
}

func ownOver(_, s api.Span) api.Span { return s }

// reaching is the place of the first row that reaches a code point or lies behind it.
func reaching[R any](rows []R, p rune, spanOf func(R) api.Span) int {
	i, _ := slices.BinarySearchFunc(rows, p, func(r R, p rune) int { return cmp.Compare(spanOf(r).To, p) })
	return i
}

// find is the place of the row that has a code point; -1: none has.
func find[R any](rows []R, p rune, spanOf func(R) api.Span) int {
	i := reaching(rows, p, spanOf)
	if i < len(rows) && spanOf(rows[i]).From <= p {
		return i
	}
	return -1
}

// meets tells whether some row has a code point of a span.
func meets[R any](rows []R, s api.Span, spanOf func(R) api.Span) bool {
	i := reaching(rows, s.From, spanOf)
	return i < len(rows) && spanOf(rows[i]).From <= s.To
}

func valueAt(rows []api.Value, p rune) int {
	if i := find(rows, p, valueSpan); i >= 0 {
		return rows[i].N
	}
	return 0
}

func charsAt(rows []api.Chars, p rune) []rune {
	if i := find(rows, p, charsSpan); i >= 0 {
		return rows[i].Is
	}
	return nil
}

func isIn(rows []api.Span, p rune) bool { return find(rows, p, ownSpan) >= 0 }

// copyOf is a book in memory of its own.
func copyOf(b api.Book) api.Book {
	return api.Book{
		Names:    copyOfNames(b.Names),
		Status:   slices.Clone(b.Status),
		Maps:     copyOfChars(b.Maps),
		Class:    slices.Clone(b.Class),
		Decomp:   copyOfChars(b.Decomp),
		Excluded: slices.Clone(b.Excluded),
		Bidi:     slices.Clone(b.Bidi),
		Join:     slices.Clone(b.Join),
		Marks:    slices.Clone(b.Marks),
		Script:   slices.Clone(b.Script),
		Like:     copyOfChars(b.Like),
	}
}

func copyOfNames(names []string) []string {
	out := make([]string, len(names))
	for i, name := range names {
		out[i] = strings.Clone(name)
	}
	return out
}

func copyOfChars(rows []api.Chars) []api.Chars {
	out := make([]api.Chars, len(rows))
	for i, r := range rows {
		out[i] = charsOver(r, charsSpan(r))
	}
	return out
}
