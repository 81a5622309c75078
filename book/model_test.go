package book

import (
	"math/rand"
	"regexp"
	"slices"
	"testing"

	"postern/api"
)

// points is how many code points there are, last the last one.
const (
	points = 1114112
	last   = points - 1
)

// row is a row of any list.
type row struct {
	from, to rune
	n        int
	is       []rune
}

// rowsOf is the rows of a list by its number, Names left out.
func rowsOf(b api.Book, list int) []row {
	var l []row
	values := func(rows []api.Value) {
		for _, r := range rows {
			l = append(l, row{r.From, r.To, r.N, nil})
		}
	}
	chars := func(rows []api.Chars) {
		for _, r := range rows {
			l = append(l, row{r.From, r.To, 0, r.Is})
		}
	}
	spans := func(rows []api.Span) {
		for _, r := range rows {
			l = append(l, row{r.From, r.To, 0, nil})
		}
	}
	switch list {
	case api.ListStatus:
		values(b.Status)
	case api.ListMaps:
		chars(b.Maps)
	case api.ListClass:
		values(b.Class)
	case api.ListDecomp:
		chars(b.Decomp)
	case api.ListExcluded:
		spans(b.Excluded)
	case api.ListBidi:
		values(b.Bidi)
	case api.ListJoin:
		values(b.Join)
	case api.ListMarks:
		spans(b.Marks)
	case api.ListScript:
		values(b.Script)
	case api.ListLike:
		chars(b.Like)
	}
	return l
}

// setRows is a book with other rows in a list.
func setRows(b api.Book, list int, l []row) api.Book {
	var values []api.Value
	var chars []api.Chars
	var spans []api.Span
	for _, r := range l {
		values = append(values, api.Value{From: r.from, To: r.to, N: r.n})
		chars = append(chars, api.Chars{From: r.from, To: r.to, Is: r.is})
		spans = append(spans, api.Span{From: r.from, To: r.to})
	}
	switch list {
	case api.ListStatus:
		b.Status = values
	case api.ListMaps:
		b.Maps = chars
	case api.ListClass:
		b.Class = values
	case api.ListDecomp:
		b.Decomp = chars
	case api.ListExcluded:
		b.Excluded = spans
	case api.ListBidi:
		b.Bidi = values
	case api.ListJoin:
		b.Join = values
	case api.ListMarks:
		b.Marks = spans
	case api.ListScript:
		b.Script = values
	case api.ListLike:
		b.Like = chars
	}
	return b
}

// addRow is a book with a row more at the end of a list, which is a new one.
func addRow(b api.Book, list int, from, to rune, n int, is ...rune) api.Book {
	return setRows(b, list, append(rowsOf(b, list), row{from, to, n, is}))
}

// plainRow is a row that may be in a list, if the span may.
func plainRow(list int, from, to rune) row {
	switch list {
	case api.ListMaps, api.ListLike:
		return row{from, to, 0, []rune{97}}
	case api.ListDecomp:
		return row{from, to, 0, []rune{0x10fffd}}
	case api.ListExcluded, api.ListMarks:
		return row{from, to, 0, nil}
	default:
		return row{from, to, 1, nil}
	}
}

// isHangul goes by the chapter's decimal numbers.
func isHangul(p rune) bool {
	return 4352 <= p && p <= 4370 || 4449 <= p && p <= 4469 || 4520 <= p && p <= 4546 || 44032 <= p && p <= 55203
}

// touchesHangul goes through a row code point by code point.
func (r row) touchesHangul() bool {
	for p := r.from; p <= r.to; p++ {
		if isHangul(p) {
			return true
		}
	}
	return false
}

func areScalarsIn(l []rune, least, most int) bool {
	return len(l) >= least && len(l) <= most && !slices.ContainsFunc(l, func(p rune) bool { return p < 0 || p > 1114111 || p >= 55296 && p <= 57343 })
}

// mayStand tells whether a row of a list may be, by the chapter's words, its place among the others left aside.
func mayStand(b api.Book, list int, r row) bool {
	if r.from > r.to || r.from < 0 || r.to > 1114111 {
		return false
	}
	within := func(least, most int) bool { return r.n >= least && r.n <= most }
	switch list {
	case api.ListStatus:
		return within(1, 3)
	case api.ListMaps:
		return areScalarsIn(r.is, 1, 18) && !slices.ContainsFunc(b.Status, func(s api.Value) bool { return s.From <= r.to && r.from <= s.To })
	case api.ListClass:
		return within(1, 254) && !r.touchesHangul()
	case api.ListDecomp:
		return r.from == r.to && areScalarsIn([]rune{r.from}, 1, 1) && areScalarsIn(r.is, 1, 2) && !isHangul(r.from)
	case api.ListExcluded:
		return !r.touchesHangul()
	case api.ListBidi:
		return within(0, 22)
	case api.ListJoin:
		return within(0, 5)
	case api.ListScript:
		return within(1, len(b.Names))
	case api.ListLike:
		return areScalarsIn(r.is, 1, 18)
	}
	return true
}

var nameShape = regexp.MustCompile(`^[A-Za-z]{1,32}$`)

// wantCheck is Check by the chapter's words.
func wantCheck(b api.Book) (api.Where, api.Errno) {
	if len(b.Names) > 64 {
		return api.Where{List: 1, Row: 64}, 100
	}
	for i, name := range b.Names {
		if !nameShape.MatchString(name) || slices.Contains(b.Names[:i], name) {
			return api.Where{List: 1, Row: i}, 100
		}
	}
	for list := 2; list <= 11; list++ {
		l := rowsOf(b, list)
		if len(l) > 65536 {
			return api.Where{List: list, Row: 65536}, 100
		}
		for i, r := range l {
			if !mayStand(b, list, r) || i > 0 && r.from <= l[i-1].to {
				return api.Where{List: list, Row: i}, 100
			}
		}
	}
	for i, r := range b.Decomp {
		_, ok := wantFull(b.Decomp, r.From, nil)
		again := slices.ContainsFunc(b.Decomp[:i], func(s api.Chars) bool { return len(r.Is) == 2 && slices.Equal(s.Is, r.Is) })
		if !ok || again {
			return api.Where{List: 5, Row: i}, 100
		}
	}
	return api.Where{}, 0
}

// wantFull is the full decomposition of p; false, if its making leads to itself, or it is too long. Through is what led to p.
func wantFull(rows []api.Chars, p rune, through []rune) ([]rune, bool) {
	if slices.Contains(through, p) {
		return nil, false
	}
	at := slices.IndexFunc(rows, func(r api.Chars) bool { return r.From == p })
	if at < 0 {
		return []rune{p}, true
	}
	var l []rune
	for _, q := range rows[at].Is {
		part, ok := wantFull(rows, q, append(slices.Clone(through), p))
		if !ok {
			return nil, false
		}
		l = append(l, part...)
	}
	return l, len(l) <= 18
}

// says is what a book says of a code point, by its words.
func says(b api.Book, p rune) api.Point {
	n := func(rows []api.Value) int {
		for _, r := range rows {
			if r.From <= p && p <= r.To {
				return r.N
			}
		}
		return 0
	}
	is := func(rows []api.Chars) []rune {
		for _, r := range rows {
			if r.From <= p && p <= r.To {
				return r.Is
			}
		}
		return nil
	}
	in := func(rows []api.Span) bool {
		for _, r := range rows {
			if r.From <= p && p <= r.To {
				return true
			}
		}
		return false
	}
	x := api.Point{
		Status: n(b.Status), Map: is(b.Maps), Class: n(b.Class), Parts: is(b.Decomp), Excluded: in(b.Excluded),
		Bidi: n(b.Bidi), Join: n(b.Join), Mark: in(b.Marks), Script: n(b.Script), Like: is(b.Like),
	}
	if x.Map != nil {
		x.Status = 4
	}
	return x
}

func keptBy(b api.Book, p rune) bool { n := says(b, p).Status; return n == 1 || n == 3 }

// samePoint holds two answers against each other.
func samePoint(x, y api.Point) bool {
	return x.Status == y.Status && slices.Equal(x.Map, y.Map) && x.Class == y.Class && slices.Equal(x.Parts, y.Parts) && x.Excluded == y.Excluded &&
		x.Bidi == y.Bidi && x.Join == y.Join && x.Mark == y.Mark && x.Script == y.Script && slices.Equal(x.Like, y.Like)
}

// sameBook holds two books against each other, row by row.
func sameBook(a, b api.Book) bool {
	if !slices.Equal(a.Names, b.Names) {
		return false
	}
	for list := 2; list <= 11; list++ {
		alike := func(x, y row) bool {
			return x.from == y.from && x.to == y.to && x.n == y.n && slices.Equal(x.is, y.is)
		}
		if !slices.EqualFunc(rowsOf(a, list), rowsOf(b, list), alike) {
			return false
		}
	}
	return true
}

// edges is code points about the ends of all rows of books, about ASCII and Hangul, and what is none.
func edges(books ...api.Book) []rune {
	l := []rune{-1 << 31, -1, 0, 127, 128, 4351, 4352, 4370, 4371, 4449, 4469, 4520, 4546, 4547, 44031, 44032, 55203, 55204, 55295, 55296, 57343, 57344, last, points, 1<<31 - 1}
	for _, b := range books {
		for list := 2; list <= 11; list++ {
			for _, r := range rowsOf(b, list) {
				l = append(l, r.from-1, r.from, r.from+1, r.to-1, r.to, r.to+1)
			}
		}
	}
	slices.Sort(l)
	return slices.Compact(l)
}

// world is what a book says of each code point, painted one by one: of lists of code points the row's place and one.
type world struct {
	book                                                          api.Book
	status, maps, class, decomp, excl, bidi, join, mark, scr, lik []int32
}

func worldOf(b api.Book) *world {
	paint := func(list int, says func(i int, r row) int) []int32 {
		out := make([]int32, points)
		for i, r := range rowsOf(b, list) {
			for p := r.from; p <= r.to; p++ {
				out[p] = int32(says(i, r))
			}
		}
		return out
	}
	n := func(_ int, r row) int { return r.n }
	place := func(i int, _ row) int { return i + 1 }
	return &world{
		book: b, status: paint(2, n), maps: paint(3, place), class: paint(4, n), decomp: paint(5, place), excl: paint(6, place),
		bidi: paint(7, n), join: paint(8, n), mark: paint(9, place), scr: paint(10, n), lik: paint(11, place),
	}
}

// point is what the world says of a code point.
func (w *world) point(p rune) api.Point {
	is := func(rows []api.Chars, place int32) []rune {
		if place == 0 {
			return nil
		}
		return rows[place-1].Is
	}
	x := api.Point{
		Status: int(w.status[p]), Map: is(w.book.Maps, w.maps[p]), Class: int(w.class[p]), Parts: is(w.book.Decomp, w.decomp[p]), Excluded: w.excl[p] > 0,
		Bidi: int(w.bidi[p]), Join: int(w.join[p]), Mark: w.mark[p] > 0, Script: int(w.scr[p]), Like: is(w.book.Like, w.lik[p]),
	}
	if w.maps[p] > 0 {
		x.Status = 4
	}
	return x
}

// name is the name of a code point's script.
func (w *world) name(p rune) string {
	if n := w.scr[p]; n > 0 {
		return w.book.Names[n-1]
	}
	return ""
}

// setBy is the one list of the set of code points of which a rule says yes.
func setBy(rule func(p rune) bool) []api.Span {
	var l []api.Span
	for p := rune(0); p < points; p++ {
		switch {
		case !rule(p):
		case len(l) > 0 && l[len(l)-1].To == p-1:
			l[len(l)-1].To = p
		default:
			l = append(l, api.Span{From: p, To: p})
		}
	}
	return l
}

// some is rows that rise and are apart, crowded at places where something begins or ends, often touching.
func some(r *rand.Rand, many int) []row {
	starts := []rune{0, 40, 110, 0x2f8, 0x10f8, 0x110e, 0x115f, 0x1172, 0x11a4, 0x11bf, 0xabfc, 0xd79e, 0xd7f8, 0xdff8, 0xfff8, 0x10ffd0}
	var l []row
	next, area := rune(0), 0
	for range many {
		if r.Intn(3) == 0 && area < len(starts)-1 {
			area += 1 + r.Intn(min(3, len(starts)-1-area))
			next = max(next, starts[area])
		}
		from := next + []rune{0, 0, 1, rune(r.Intn(6))}[r.Intn(4)]
		to := from + []rune{0, 0, 1, rune(r.Intn(9))}[r.Intn(4)]
		if r.Intn(60) == 0 {
			to += rune(r.Intn(3000))
		}
		if to > last {
			break
		}
		l = append(l, row{from: from, to: to})
		next = to + 1
	}
	return l
}

// someRunes is a few scalar values, often the same ones.
func someRunes(r *rand.Rand, most int) []rune {
	pool := []rune{0, 45, 97, 98, 0x301, 0x302, 0x1100, 0xac00, 0xfffd, last}
	l := make([]rune, 1+r.Intn(most))
	for i := range l {
		l[i] = pool[r.Intn(len(pool))]
	}
	return l
}

// someBook is a book that may be.
func someBook(r *rand.Rand) api.Book {
	many := func() int { return r.Intn(14) }
	var b api.Book
	for i := range r.Intn(5) {
		b.Names = append(b.Names, []string{"Latin", "Greek", "Han", "A", "Common"}[i*3%5])
	}
	r.Shuffle(len(b.Names), func(i, j int) { b.Names[i], b.Names[j] = b.Names[j], b.Names[i] })
	numbers := func(list int, rows []row, least, most int) {
		for _, x := range rows {
			if most >= least {
				x.n = least + r.Intn(min(most-least, 2)+1)
				if r.Intn(5) == 0 {
					x.n = most
				}
				if mayStand(b, list, x) {
					b = addRow(b, list, x.from, x.to, x.n)
				}
			}
		}
	}
	numbers(api.ListStatus, some(r, many()), 1, 3)
	for _, list := range []int{api.ListMaps, api.ListLike} {
		for _, x := range some(r, many()) {
			if x.is = someRunes(r, 2); r.Intn(9) == 0 {
				x.is = someRunes(r, 18)
			}
			if mayStand(b, list, x) {
				b = addRow(b, list, x.from, x.to, 0, x.is...)
			}
		}
	}
	numbers(api.ListClass, some(r, many()), 1, 254)
	numbers(api.ListExcluded, some(r, many()), 0, 0)
	numbers(api.ListBidi, some(r, many()), 0, 22)
	numbers(api.ListJoin, some(r, many()), 0, 5)
	numbers(api.ListMarks, some(r, many()), 0, 0)
	numbers(api.ListScript, some(r, many()), 1, len(b.Names))
	for _, x := range some(r, 2*many()) {
		x.to, x.is = x.from, someRunes(r, 2)
		if len(b.Decomp) > 0 && r.Intn(2) == 0 {
			x.is[0] = b.Decomp[r.Intn(len(b.Decomp))].From
		}
		if c := addRow(b, api.ListDecomp, x.from, x.to, 0, x.is...); mayStand(b, api.ListDecomp, x) {
			if _, e := wantCheck(c); e == api.OK {
				b = c
			}
		}
	}
	return b
}

// someBooks is many of them, the sample and the one without rows among them.
func someBooks(seed int64, many int) []api.Book {
	r := rand.New(rand.NewSource(seed))
	l := []api.Book{{}, sample()}
	for range many {
		l = append(l, someBook(r))
	}
	return l
}

// sample is the book of api.Sample.
func sample() api.Book {
	b, _, _ := Read(api.Sample)
	return b
}

// compiled is the tables of a book that may be.
func compiled(t *testing.T, b api.Book) *Tables {
	t.Helper()
	x, e := Compile(b)
	if x == nil || e != api.OK {
		t.Fatalf("Compile(%v): %v, %d", b, x != nil, e)
	}
	return x
}
