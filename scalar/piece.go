package scalar

import (
	"iter"
	"strings"
	"unicode/utf8"

	"postern/api"
)

// Pieces is the pieces of a text.
func Pieces(s string) []api.Piece {
	var l []api.Piece
	for p := range each(s) {
		l = append(l, p)
	}
	return l
}

// Decode is what the pieces of a text say.
func Decode(s string) []rune {
	var l []rune
	for p := range each(s) {
		l = append(l, p.Rune)
	}
	return l
}

// Wrong is where the first wrong piece begins; -1: none is wrong.
func Wrong(s string) int {
	for p := range each(s) {
		if p.Wrong {
			return p.At
		}
	}
	return -1
}

// At is the first piece of the text that begins at a byte, whatever stands ahead of it.
func At(s string, at int) (api.Piece, api.Errno) {
	if at < 0 || at >= len(s) {
		return api.Piece{}, api.ErrPlace
	}
	return pieceAt(s, at), api.OK
}

// Clean is a text with U+FFFD in place of each wrong piece.
func Clean(s string) string {
	// Pieces say nothing but scalar values, so that there is no error to ask for.
	clean, _, _ := Encode(Decode(s))
	return clean
}

// Cut is the longest beginning of whole pieces that has at most so many bytes.
func Cut(s string, most int) string {
	end := 0
	for p := range each(s) {
		if p.At+p.Size > most {
			break
		}
		end = p.At + p.Size
	}
	// A copy, so that a short answer does not hold on to a long text.
	return strings.Clone(s[:end])
}

// each goes through the pieces of a text.
func each(s string) iter.Seq[api.Piece] {
	return func(yield func(api.Piece) bool) {
		for at := 0; at < len(s); {
			p := pieceAt(s, at)
			if !yield(p) {
				return
			}
			at += p.Size
		}
	}
}

// pieceAt is the piece that begins at a byte that the text has.
func pieceAt(s string, at int) api.Piece {
	r, size := utf8.DecodeRuneInString(s[at:])
	// The library tells a fault as U+FFFD of one byte; U+FFFD itself has three.
	if r == replacement && size == 1 {
		return api.Piece{At: at, Size: wrongSize(s[at:]), Rune: replacement, Wrong: true}
	}
	return api.Piece{At: at, Size: size, Rune: r}
}

// wrongSize is how many bytes the wrong piece at a text's front has.
func wrongSize(s string) int {
	size := 1
	for size < len(s) && unfinished(s[:size+1]) {
		size++
	}
	return size
}

// unfinished is whether a text that is not empty is the beginning of a well-formed sequence and not the whole of it.
func unfinished(s string) bool {
	// To the library what can't become well-formed any more is full as well, so that just such beginnings are left.
	return !utf8.FullRuneInString(s)
}
