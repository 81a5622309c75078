package line

import (
	"regexp"
	"slices"
	"strconv"
	"strings"
	"testing"

	"postern/api"
)

// wantRows is the lines of a text, empty ones with them, by the chapter's words.
func wantRows(s string) []string {
	l := strings.Split(s, "\n")
	// Behind a byte 10 at the end there is no line more.
	if l[len(l)-1] == "" {
		l = l[:len(l)-1]
	}
	for i, row := range l {
		if strings.HasSuffix(row, "\r") {
			l[i] = row[:len(row)-1]
		}
	}
	return l
}

var (
	emptyPattern = regexp.MustCompile(`^[ \t]*(#|$)`)
	rowPattern   = regexp.MustCompile(`(?s)^([^#]*)(?:#(.*))?$`)
	fieldPattern = regexp.MustCompile(`(?s)^[ \t]*(.*?)[ \t]*$`)
	pointPattern = regexp.MustCompile(`^[0-9A-Fa-f]{4,6}$`)
	rangePattern = regexp.MustCompile(`^([0-9A-Fa-f]{4,6})(?:\.\.([0-9A-Fa-f]{4,6}))?$`)
	wholePattern = regexp.MustCompile(`^-?[0-9]{1,9}$`)
	wordPattern  = regexp.MustCompile(`[^ ]+`)
)

// wantLines is the lines that are not empty, numbered from the one behind ahead on.
func wantLines(s string, ahead int) []api.Line {
	var l []api.Line
	for i, row := range wantRows(s) {
		if emptyPattern.MatchString(row) {
			continue
		}
		parts := rowPattern.FindStringSubmatch(row)
		var fields []string
		for _, f := range strings.Split(parts[1], ";") {
			fields = append(fields, fieldPattern.FindStringSubmatch(f)[1])
		}
		l = append(l, api.Line{Number: ahead + i + 1, Fields: fields, Note: fieldPattern.FindStringSubmatch(parts[2])[1]})
	}
	return l
}

func wantPoint(s string) (rune, api.Errno) {
	n, err := strconv.ParseInt(s, 16, 32)
	if !pointPattern.MatchString(s) || err != nil || n > 0x10ffff {
		return 0, api.ErrPoint
	}
	return rune(n), api.OK
}

func wantRange(s string) (api.Span, api.Errno) {
	parts := rangePattern.FindStringSubmatch(s)
	if parts == nil {
		return api.Span{}, api.ErrRange
	}
	from, e := wantPoint(parts[1])
	to, f := from, e
	if parts[2] != "" {
		to, f = wantPoint(parts[2])
	}
	if e != api.OK || f != api.OK || from > to {
		return api.Span{}, api.ErrRange
	}
	return api.Span{From: from, To: to}, api.OK
}

func wantSequence(s string) ([]rune, int, api.Errno) {
	var l []rune
	for i, word := range wordPattern.FindAllString(s, -1) {
		p, e := wantPoint(word)
		if e != api.OK {
			return nil, i, api.ErrPoint
		}
		l = append(l, p)
	}
	return l, 0, api.OK
}

func wantWhole(s string) (int, api.Errno) {
	if !wholePattern.MatchString(s) {
		return 0, api.ErrWhole
	}
	n, err := strconv.Atoi(s)
	if err != nil {
		panic(err)
	}
	return n, api.OK
}

// alike tells whether two lists of lines are the same.
func alike(a, b []api.Line) bool { return slices.EqualFunc(a, b, same) }

func same(a, b api.Line) bool {
	return a.Number == b.Number && slices.Equal(a.Fields, b.Fields) && a.Note == b.Note
}

// of is a line.
func of(number int, note string, fields ...string) api.Line {
	return api.Line{Number: number, Fields: fields, Note: note}
}

// manyFields is what a line of so many fields is written as.
func manyFields(n int) string { return strings.Repeat("a;", n-1) + "a" }

// texts goes through all texts of some length over some bytes.
func texts(length int, bytes string, visit func(string)) {
	if length == 0 {
		visit("")
		return
	}
	texts(length-1, bytes, func(s string) {
		for i := range len(bytes) {
			visit(s + bytes[i:i+1])
		}
	})
}

// cuts hands over a text cut into pieces in every way; it should be short.
func cuts(s string, visit func([]string)) {
	if s == "" {
		visit(nil)
		return
	}
	for bits := range 1 << (len(s) - 1) {
		var l []string
		from := 0
		for i := 1; i < len(s); i++ {
			if bits>>(i-1)&1 == 1 {
				l = append(l, s[from:i])
				from = i
			}
		}
		visit(append(l, s[from:]))
	}
}

// pieces is a text cut into pieces of some size.
func pieces(s string, size int) []string {
	var l []string
	for ; len(s) > size; s = s[size:] {
		l = append(l, s[:size])
	}
	return append(l, s)
}

// someTexts are longer texts of all kinds.
func someTexts() []string {
	all := make([]byte, 256)
	for i := range all {
		all[i] = byte(i)
	}
	return []string{
		"", "\n", "\r", "\r\n", "a", "a\n", "a\r", "a\r\n", "a\n\r", "a\r\r", "a\r\r\n", "a\n\n", "a\n\nb", "\n\n\na", "a\rb", "a\rb\r\nc\r", "\ra", "\r\ra\r\n\r\r\n",
		"0041..005A ; L # letters\r\n\n# only\n00E9;L;x", "a # n; o # p\n", "a#", "a # \n", "a ##\n", "a;\n", ";a", ";", ";;", " ; \t; ", "a b;\tc\td ", "  \t\n\t#\t\na", "# a\n#b;c\n;#d\n",
		"a # n\r\r\n", "a # \r\n", "a # \r", "a\r# n", "a \r", "a \r\n", "a\r \n", "\x00;\x80\xff # \xe2\x82\xac\n", "\u00a0a\u00a0;\u3000 # \u2028\u0085\n", "\va\f\n\v\n\f", string(all), strings.Repeat("a;b # c\r\n\n", 100),
		manyFields(64), manyFields(65) + "\n", manyFields(64) + "\n\n" + manyFields(66) + "\n" + manyFields(65),
	}
}

// checkLines tells the test where two lists of lines are unlike.
func checkLines(t *testing.T, what string, got, want []api.Line) {
	t.Helper()
	if !alike(got, want) {
		t.Errorf("%s: %#v, not %#v", what, got, want)
	}
}
