package span

import (
	"strconv"
	"strings"

	"postern/api"
)

const (
	hexDigits = "0123456789ABCDEF"
	// fewestDigits and mostDigits are how many digits a code point is written with.
	fewestDigits = 4
	mostDigits   = 6
)

// Text is a set as a text.
func Text(x []api.Span) (string, api.Errno) {
	if !Is(x) {
		return "", api.ErrSpan
	}
	var l []byte
	for i, s := range x {
		if i > 0 {
			l = append(l, ',')
		}
		l = append(l, written(s.From)...)
		if s.From < s.To {
			l = append(l, '-')
			l = append(l, written(s.To)...)
		}
	}
	return string(l), api.OK
}

// written is a code point as a number to the base 16.
func written(p rune) string {
	s := strings.ToUpper(strconv.FormatInt(int64(p), 16))
	return strings.Repeat("0", max(fewestDigits-len(s), 0)) + s
}

// Parse is the set of a text.
func Parse(s string) ([]api.Span, int, api.Errno) {
	if s == "" {
		return nil, 0, api.OK
	}
	var r reader
	for i := range len(s) {
		if !r.take(s[i]) {
			return nil, i, api.ErrText
		}
	}
	if !r.now.done() {
		return nil, len(s), api.ErrText
	}
	r.close()
	x, e := limited(r.spans)
	return x, 0, e
}

// reader reads a text byte by byte: the spans that are closed, and the one whose numbers it is at.
type reader struct {
	spans []api.Span
	from  rune
	isTo  bool
	now   number
}

// take reads a byte, and tells whether what was read is the beginning of a text still.
func (r *reader) take(b byte) bool {
	switch b {
	case '-':
		if r.isTo {
			return false
		}
		r.from, r.isTo = r.now.value, true
		return r.follow(1)
	case ',':
		r.close()
		return r.follow(2)
	}
	return r.now.take(b)
}

// follow ends a number and begins one that is greater by so much at least; it tells whether both may be.
func (r *reader) follow(more rune) bool {
	ahead := r.now
	r.now = number{least: ahead.value + more}
	return ahead.done() && r.now.least <= api.MaxPoint
}

// close ends a span.
func (r *reader) close() {
	s := api.Span{From: r.now.value, To: r.now.value}
	if r.isTo {
		s.From = r.from
	}
	r.spans, r.isTo = append(r.spans, s), false
}

// number is the digits of a number so far; the number must be the least one that may stand there, or above.
type number struct {
	least, value rune
	size         int
}

// done tells whether the digits are a number that may stand there.
func (n *number) done() bool { return n.size >= fewestDigits && n.value >= n.least }

// take reads a digit, and tells whether a number that may stand there begins so.
func (n *number) take(b byte) bool {
	digit := strings.IndexByte(hexDigits, b)
	if digit < 0 || n.size == mostDigits {
		return false
	}
	n.value, n.size = n.value<<4+rune(digit), n.size+1
	for size := max(n.size, fewestDigits); size <= n.most(); size++ {
		if n.reaches(size) {
			return true
		}
	}
	return false
}

// most is how many digits the number may have in all: with a nought ahead no more than it must.
func (n *number) most() int {
	if n.value>>(4*(n.size-1)) == 0 {
		return fewestDigits
	}
	return mostDigits
}

// reaches tells whether a number of so many digits that begins so may stand there.
func (n *number) reaches(size int) bool {
	more := 4 * (size - n.size)
	low, high := n.value<<more, (n.value+1)<<more-1
	return low <= api.MaxPoint && high >= n.least
}
