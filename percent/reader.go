package percent

import (
	"strings"

	"postern/api"
)

// Reader reads fields in pieces.
type Reader struct {
	left []byte // what came behind the last &; bytes, so that a long field in short pieces is not copied at each of them
}

// NewReader is a reader to which nothing was fed.
func NewReader() *Reader { return &Reader{} }

// Feed takes a piece: the fields that are whole.
func (r *Reader) Feed(piece string) []api.Field {
	if r == nil {
		return nil
	}
	end := strings.LastIndex(piece, betweenFields)
	if end < 0 {
		r.left = append(r.left, piece...)
		return nil
	}
	whole := Fields(string(r.left) + piece[:end])
	r.left = []byte(piece[end+len(betweenFields):])
	return whole
}

// End is the field that is left, if there is any; the reader is as new then.
func (r *Reader) End() []api.Field {
	if r == nil {
		return nil
	}
	last := Fields(string(r.left))
	r.left = nil
	return last
}
