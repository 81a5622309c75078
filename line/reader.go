package line

import (
	"strings"

	"postern/api"
)

// Reader reads lines in pieces.
type Reader struct {
	kept   []byte // what came behind the last byte 10; bytes, so that a long line in short pieces is not copied at each of them
	number int    // how many lines were told or left out
}

// NewReader is a reader that keeps nothing.
func NewReader() *Reader { return &Reader{} }

// Feed takes a piece: the lines that are whole.
func (r *Reader) Feed(piece string) []api.Line {
	if r == nil {
		return nil
	}
	end := strings.LastIndex(piece, lineEnd) + 1
	if end == 0 {
		r.kept = append(r.kept, piece...)
		return nil
	}
	whole := string(r.kept) + piece[:end]
	r.kept = []byte(piece[end:])
	return r.told(whole)
}

// End is the line that is kept; lines that are fed behind it are counted on.
func (r *Reader) End() []api.Line {
	if r == nil {
		return nil
	}
	last := string(r.kept)
	r.kept = nil
	return r.told(last)
}

// Number is how many lines there were.
func (r *Reader) Number() int {
	if r == nil {
		return 0
	}
	return r.number
}

// told counts the lines of a text, and is those that are not empty.
func (r *Reader) told(s string) []api.Line {
	var l []api.Line
	for row := range rows(s) {
		r.number++
		if next := lineOf(row, r.number); !isEmpty(next) {
			l = append(l, next)
		}
	}
	return l
}
