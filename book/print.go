package book

import (
	"strconv"
	"strings"

	"postern/api"
	"postern/line"
)

const betweenEnds = ".."

// Print is a book as lines.
func Print(b api.Book) (string, api.Errno) {
	if _, e := Check(b); e != api.OK {
		return "", e
	}
	var w writer
	for _, r := range b.Status {
		w.line(wordOf(api.ListStatus, r.N), valueSpan(r))
	}
	w.chars(api.ListMaps, b.Maps)
	w.values(api.ListClass, b.Class, strconv.Itoa)
	w.chars(api.ListDecomp, b.Decomp)
	w.spans(api.ListExcluded, b.Excluded)
	w.values(api.ListBidi, b.Bidi, func(n int) string { return directions()[n] })
	w.values(api.ListJoin, b.Join, func(n int) string { return joinings()[n] })
	w.spans(api.ListMarks, b.Marks)
	w.values(api.ListScript, b.Script, func(n int) string { return nameOf(b.Names, n) })
	w.chars(api.ListLike, b.Like)
	return w.text.String(), api.OK
}

// writer writes the lines of rows that may be, so line tells no error.
type writer struct{ text strings.Builder }

func (w *writer) line(word string, s api.Span, more ...string) {
	text, _ := line.Print(api.Line{Fields: append([]string{word, spanText(s)}, more...)})
	w.text.WriteString(text)
}

func (w *writer) chars(list int, rows []api.Chars) {
	for _, r := range rows {
		is, _ := line.Tell(r.Is)
		w.line(wordOf(list, 0), charsSpan(r), is)
	}
}

func (w *writer) values(list int, rows []api.Value, name func(n int) string) {
	for _, r := range rows {
		w.line(wordOf(list, 0), valueSpan(r), name(r.N))
	}
}

func (w *writer) spans(list int, rows []api.Span) {
	for _, r := range rows {
		w.line(wordOf(list, 0), r)
	}
}

// spanText is a span as line.Range reads it.
func spanText(s api.Span) string {
	from, _ := line.Tell([]rune{s.From})
	if s.From == s.To {
		return from
	}
	to, _ := line.Tell([]rune{s.To})
	return from + betweenEnds + to
}
