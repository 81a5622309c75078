package book

import (
	"slices"

	"postern/api"
)

const (
	// shortLine is how many fields a line has with nothing behind its span, longLine with something.
	shortLine = 2
	longLine  = 3
)

// kind is a kind of lines: the list into which its rows go, the number that they have there if it is Status, and how many fields the lines have.
type kind struct {
	word   string
	list   int
	status int
	fields int
}

var kinds = [...]kind{
	{word: "valid", list: api.ListStatus, status: api.StatusValid, fields: shortLine},
	{word: "ignored", list: api.ListStatus, status: api.StatusIgnored, fields: shortLine},
	{word: "deviation", list: api.ListStatus, status: api.StatusDeviation, fields: shortLine},
	{word: "mapped", list: api.ListMaps, fields: longLine},
	{word: "class", list: api.ListClass, fields: longLine},
	{word: "decomposed", list: api.ListDecomp, fields: longLine},
	{word: "excluded", list: api.ListExcluded, fields: shortLine},
	{word: "bidi", list: api.ListBidi, fields: longLine},
	{word: "joining", list: api.ListJoin, fields: longLine},
	{word: "mark", list: api.ListMarks, fields: shortLine},
	{word: "script", list: api.ListScript, fields: longLine},
	{word: "like", list: api.ListLike, fields: longLine},
}

// kindOf is the kind with a word.
func kindOf(word string) (kind, bool) {
	for _, k := range kinds {
		if k.word == word {
			return k, true
		}
	}
	return kind{}, false
}

// wordOf is the word of the lines of a list; the status tells which, where a list has several.
func wordOf(list, status int) string {
	for _, k := range kinds {
		if k.list == list && k.status == status {
			return k.word
		}
	}
	return ""
}

// directions is the names of directions by their numbers.
func directions() []string {
	return []string{"L", "R", "AL", "EN", "ES", "ET", "AN", "CS", "NSM", "BN", "ON", "B", "S", "WS", "LRE", "LRO", "RLE", "RLO", "PDF", "LRI", "RLI", "FSI", "PDI"}
}

// joinings is the names of joinings by their numbers.
func joinings() []string { return []string{"U", "L", "R", "D", "T", "C"} }

// placeOf is the number of a name among known ones.
func placeOf(name string, known []string) (int, api.Errno) {
	n := slices.Index(known, name)
	if n < 0 {
		return 0, api.ErrCalled
	}
	return n, api.OK
}
