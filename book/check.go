package book

import (
	"slices"

	"postern/api"
)

const (
	// longestName is how many letters the name of a script has at most.
	longestName = 32
	leastClass  = 1
	mostClass   = 254
	mostBidi    = 22
	mostParts   = 2
)

// Check is the first place where a book may not be.
func Check(b api.Book) (api.Where, api.Errno) {
	for list := api.ListNames; list <= api.ListLike; list++ {
		if row := firstWrong(&b, list); row >= 0 {
			return api.Where{List: list, Row: row}, api.ErrBook
		}
	}
	// Only of lists that may be, as parts are found in rows that rise.
	if row := firstUnmade(b.Decomp); row >= 0 {
		return api.Where{List: api.ListDecomp, Row: row}, api.ErrBook
	}
	return api.Where{}, api.OK
}

// firstWrong is the place of the first row of a list that may not be; -1: all may. The lists ahead may be.
func firstWrong(b *api.Book, list int) int {
	switch list {
	case api.ListNames:
		return firstWrongName(b.Names)
	case api.ListStatus:
		return firstWrongValue(b.Status, api.StatusValid, api.StatusDeviation)
	case api.ListMaps:
		return firstFallen(b.Maps, charsSpan, func(r api.Chars) bool {
			return areScalars(r.Is, api.MaxChars) && !meets(b.Status, charsSpan(r), valueSpan)
		})
	case api.ListClass:
		return firstFallen(b.Class, valueSpan, func(r api.Value) bool {
			return leastClass <= r.N && r.N <= mostClass && !hasHangul(valueSpan(r))
		})
	case api.ListDecomp:
		return firstFallen(b.Decomp, charsSpan, func(r api.Chars) bool {
			return r.From == r.To && isScalar(r.From) && areScalars(r.Is, mostParts) && !hasHangul(charsSpan(r))
		})
	case api.ListExcluded:
		return firstFallen(b.Excluded, ownSpan, func(r api.Span) bool { return !hasHangul(r) })
	case api.ListBidi:
		return firstWrongValue(b.Bidi, api.BidiL, mostBidi)
	case api.ListJoin:
		return firstWrongValue(b.Join, api.JoinU, api.JoinC)
	case api.ListMarks:
		return firstFallen(b.Marks, ownSpan, func(api.Span) bool { return true })
	case api.ListScript:
		return firstWrongValue(b.Script, 1, len(b.Names))
	default:
		return firstFallen(b.Like, charsSpan, func(r api.Chars) bool { return areScalars(r.Is, api.MaxChars) })
	}
}

// firstFallen is the place of the first row, of any kind, that does not rise behind the one ahead within all code points, or may not be by itself; MaxRows of too many rows.
func firstFallen[R any](rows []R, spanOf func(R) api.Span, mayBe func(R) bool) int {
	if len(rows) > api.MaxRows {
		return api.MaxRows
	}
	ahead := rune(-1)
	for i, r := range rows {
		s := spanOf(r)
		if s.From <= ahead || s.To < s.From || !isPoint(s.To) || !mayBe(r) {
			return i
		}
		ahead = s.To
	}
	return -1
}

func firstWrongValue(rows []api.Value, least, most int) int {
	return firstFallen(rows, valueSpan, func(r api.Value) bool { return least <= r.N && r.N <= most })
}

func firstWrongName(names []string) int {
	if len(names) > api.MaxScripts {
		return api.MaxScripts
	}
	for i, name := range names {
		if !isName(name) || slices.Contains(names[:i], name) {
			return i
		}
	}
	return -1
}

// isName tells whether a script may be called so.
func isName(s string) bool {
	if len(s) < 1 || len(s) > longestName {
		return false
	}
	for i := range len(s) {
		if !isLetter(s[i]) {
			return false
		}
	}
	return true
}

func isLetter(b byte) bool { return 'a' <= b && b <= 'z' || 'A' <= b && b <= 'Z' }

// areScalars tells whether there are scalar values alone, one at least and not too many.
func areScalars(l []rune, most int) bool {
	if len(l) < 1 || len(l) > most {
		return false
	}
	for _, p := range l {
		if !isScalar(p) {
			return false
		}
	}
	return true
}

// firstUnmade is the place of the first row of Decomp without a full decomposition that may be, or with two parts that a row ahead has; -1: there is none.
func firstUnmade(rows []api.Chars) int {
	all := newFulls(rows)
	first := make(map[[2]rune]int, len(rows))
	for i, r := range rows {
		if all.row(i).size > api.MaxChars {
			return i
		}
		if len(r.Is) != 2 {
			continue
		}
		pair := [2]rune{r.Is[0], r.Is[1]}
		if _, again := first[pair]; again {
			return i
		}
		first[pair] = i
	}
	return -1
}
