package book

import (
	"fmt"
	"math/rand"
	"slices"
	"strings"
	"testing"

	"postern/api"
)

// isWrongAt holds Check, and all calls that ask it, against a place; list 0: nothing is wrong.
func isWrongAt(t *testing.T, what string, b api.Book, list, place int) {
	t.Helper()
	want := api.OK
	if list > 0 {
		want = api.ErrBook
	}
	if w, e := Check(b); w != (api.Where{List: list, Row: place}) || e != want {
		t.Errorf("%s: Check: %v, %d, not %d, %d", what, w, e, list, place)
	}
	if list == 0 {
		return
	}
	if s, e := Print(b); s != "" || e != want {
		t.Errorf("%s: Print: %q, %d", what, s, e)
	}
	if n, p, e := Sound(b); n != 0 || p != 0 || e != want {
		t.Errorf("%s: Sound: %d, %d, %d", what, n, p, e)
	}
	for _, p := range []rune{-1, 65, points} {
		if x, e := Flat(b, p); !samePoint(x, api.Point{}) || e != want {
			t.Errorf("%s: Flat: %v, %d", what, x, e)
		}
	}
	if x, e := Compile(b); x != nil || e != want {
		t.Errorf("%s: Compile: %v, %d", what, x != nil, e)
	}
	for _, c := range [][2]api.Book{{b, {}}, {{}, b}, {b, b}} {
		if x, e := Differ(c[0], c[1]); len(x) != 0 || e != want {
			t.Errorf("%s: Differ: %v, %d", what, x, e)
		}
	}
	for _, x := range [][]api.Span{nil, {{From: 5, To: 9}}, {{From: 9, To: 5}}} {
		if c, e := Restrict(b, x); !sameBook(c, api.Book{}) || e != want {
			t.Errorf("%s: Restrict: %v, %d", what, c, e)
		}
		if c, e := Closure(b, x); len(c) != 0 || e != want {
			t.Errorf("%s: Closure: %v, %d", what, c, e)
		}
	}
	if n, e := Counts(b); n != (api.Counts{}) || e != want {
		t.Errorf("%s: Counts: %v, %d", what, n, e)
	}
	if c, e := Tidy(b); !sameBook(c, api.Book{}) || e != want {
		t.Errorf("%s: Tidy: %v, %d", what, c, e)
	}
}

// Promise 10.2: rows of each list that touch, overlap, fall, or lie outside.
func TestCheckSpans(t *testing.T) {
	named := api.Book{Names: []string{"Latin"}}
	for _, c := range []struct {
		ends  []rune
		place int // -1: nothing is wrong
	}{
		{nil, -1}, {[]rune{0, 0}, -1}, {[]rune{last, last}, -1}, {[]rune{0, 0, 1, 1, 2, 2}, -1}, {[]rune{5, 5, last, last}, -1},
		{[]rune{5, 4}, 0}, {[]rune{-1, -1}, 0}, {[]rune{-1, 0}, 0}, {[]rune{-5, -7}, 0}, {[]rune{last + 1, last + 1}, 0}, {[]rune{last, last + 1}, 0}, {[]rune{-1 << 31, -1 << 31}, 0}, {[]rune{1<<31 - 1, 1<<31 - 1}, 0}, {[]rune{-1 << 31, 1<<31 - 1}, 0}, {[]rune{1<<31 - 1, -1 << 31}, 0},
		{[]rune{5, 5, 5, 5}, 1}, {[]rune{5, 5, 4, 4}, 1}, {[]rune{5, 5, 7, 7, 6, 6}, 2}, {[]rune{5, 5, 7, 7, 7, 7, 3, 3}, 2}, {[]rune{5, 5, 9, 8}, 1}, {[]rune{5, 5, -1, -1}, 1}, {[]rune{last, last, last, last}, 1}, {[]rune{last, last, last + 1, last + 1}, 1}, {[]rune{last, last, 0, 0}, 1}, {[]rune{1, 1, 2, 2, 5, 4, 3, 3}, 2},
		{[]rune{0, last}, -2}, {[]rune{0, 5, 6, 9}, -2}, {[]rune{0, 5, 7, 9}, -2}, {[]rune{0, 0xd7ff, 0xd800, 0xdfff, 0xe000, last}, -2},
		{[]rune{1, 5, 5, 9}, 1}, {[]rune{1, 9, 3, 4}, 1}, {[]rune{1, 5, 6, 9, 8, 12}, 2}, {[]rune{6, 9, 1, 5}, 1}, {[]rune{0, last, last, last}, 1},
	} {
		for list := api.ListStatus; list <= api.ListLike; list++ {
			var l []row
			place, wide, reaches := c.place, -1, false
			for i := 0; i < len(c.ends); i += 2 {
				r := plainRow(list, c.ends[i], c.ends[i+1])
				if r.to > r.from && wide < 0 {
					wide = i / 2
				}
				reaches = reaches || r.from < 4352 && r.to > 4352
				l = append(l, r)
			}
			if list == api.ListDecomp && wide >= 0 && (place < 0 || wide < place) {
				place = wide
			}
			if (list == api.ListClass || list == api.ListExcluded) && reaches && (c.place == -2 || c.place == 1) {
				place = 0
			}
			b, what := setRows(named, list, l), fmt.Sprint(list, c.ends)
			if place < 0 {
				isWrongAt(t, what, b, 0, 0)
			} else {
				isWrongAt(t, what, b, list, place)
			}
		}
	}
}

// Promise 10.2: MaxRows rows of each list, and one more, whichever others may not be.
func TestCheckManyRows(t *testing.T) {
	named := api.Book{Names: []string{"Latin"}}
	for list := api.ListStatus; list <= api.ListLike; list++ {
		l := make([]row, 65537)
		for i := range l {
			p := 0x20000 + rune(i)
			l[i] = plainRow(list, p, p)
		}
		what := fmt.Sprint("many rows of ", list)
		isWrongAt(t, what, setRows(named, list, l[:65536]), 0, 0)
		if w, e := Check(setRows(named, list, l)); w != (api.Where{List: list, Row: 65536}) || e != api.ErrBook {
			t.Errorf("%s, one more: %v, %d", what, w, e)
		}
		l[0].from, l[7].n, l[9].to = -1, -1, -5
		isWrongAt(t, what+", and others wrong", setRows(named, list, l), list, 65536)
		isWrongAt(t, what+", wrong without the one more", setRows(named, list, l[:65536]), list, 0)
	}
}

// letters is n names that are unlike.
func letters(n int) []string {
	var l []string
	for i := range n {
		l = append(l, string([]byte{byte('A' + i/26), byte('a' + i%26)}))
	}
	return l
}

// Promise 10.2: names of scripts.
func TestCheckNames(t *testing.T) {
	long := strings.Repeat("aZ", 16)
	for what, c := range map[string]struct {
		names []string
		place int
	}{
		"64": {letters(64), -1}, "one more": {letters(65), 64}, "many more": {letters(200), 64}, "one more, and others wrong": {append([]string{"", "9"}, letters(63)...), 64},
		"one letter": {[]string{"a", "z", "A", "Z"}, -1}, "32 letters": {[]string{long}, -1}, "33 letters": {[]string{"a", long + "a"}, 1}, "many letters": {[]string{strings.Repeat("a", 100000)}, 0},
		"none": {[]string{"a", "b", ""}, 2}, "a digit": {[]string{"a1"}, 0}, "a space": {[]string{"a", "a b"}, 1}, "a sign": {[]string{"Old_Italic"}, 0},
		"about the letters": {[]string{"a@"}, 0}, "about the letters 2": {[]string{"["}, 0}, "about the letters 3": {[]string{"`"}, 0}, "about the letters 4": {[]string{"{"}, 0},
		"no ASCII": {[]string{"\u00e9"}, 0}, "no text": {[]string{"\xff"}, 0}, "a nought": {[]string{"a\x00"}, 0}, "an end": {[]string{"a\n"}, 0}, "high with the letters' bits": {[]string{"\xe1"}, 0},
		"twice": {[]string{"a", "b", "a"}, 2}, "twice, and the last is wrong": {[]string{"a", "a", ""}, 1}, "of other size": {[]string{"a", "A"}, -1},
	} {
		b := api.Book{Names: c.names}
		if c.place < 0 {
			isWrongAt(t, what, b, 0, 0)
		} else {
			isWrongAt(t, what, b, 1, c.place)
		}
	}
}

// Promise 10.2: numbers at and beyond their bounds.
func TestCheckNumbers(t *testing.T) {
	for list, bounds := range map[int][2]int{api.ListStatus: {1, 3}, api.ListClass: {1, 254}, api.ListBidi: {0, 22}, api.ListJoin: {0, 5}, api.ListScript: {1, 3}} {
		for _, n := range []int{bounds[0], bounds[0] + 1, bounds[1] - 1, bounds[1], bounds[0] - 1, bounds[1] + 1, -1, 4, 6, 23, 255, 256, 65536, 65537, 1<<32 + 1, -1 << 63, 1<<63 - 1} {
			b := api.Book{Names: []string{"a", "b", "c"}}
			b = addRow(addRow(addRow(b, list, 5, 9, 1), list, 10, 10, n), list, 11, 11, 1)
			what := fmt.Sprint("number ", n, " of ", list)
			if n >= bounds[0] && n <= bounds[1] {
				isWrongAt(t, what, b, 0, 0)
			} else {
				isWrongAt(t, what, b, list, 1)
			}
		}
	}
	isWrongAt(t, "a script without names", addRow(api.Book{}, api.ListScript, 5, 5, 1), api.ListScript, 0)
}

// Promise 10.2: what rows of code points are.
func TestCheckIs(t *testing.T) {
	for _, list := range []int{api.ListMaps, api.ListDecomp, api.ListLike} {
		most := 18
		if list == api.ListDecomp {
			most = 2
		}
		for _, many := range []int{0, 1, 2, 3, 17, 18, 19, 100} {
			what := fmt.Sprint(many, " code points in ", list)
			b := addRow(addRow(api.Book{}, list, 200, 200, 0, 5), list, 201, 201, 0, slices.Repeat([]rune{97}, many)...)
			if many >= 1 && many <= most {
				isWrongAt(t, what, b, 0, 0)
			} else {
				isWrongAt(t, what, b, list, 1)
			}
		}
		for _, p := range []rune{0, 0xd7ff, 0xe000, last, 0xac00} {
			isWrongAt(t, fmt.Sprint(p, " in ", list), addRow(api.Book{}, list, 200, 200, 0, 97, p), 0, 0)
		}
		for _, p := range []rune{-1, 0xd800, 0xdabc, 0xdfff, last + 1, -1 << 31, 1<<31 - 1} {
			isWrongAt(t, fmt.Sprint(p, " first in ", list), addRow(api.Book{}, list, 200, 200, 0, p, 97), list, 0)
			isWrongAt(t, fmt.Sprint(p, " last in ", list), addRow(api.Book{}, list, 200, 200, 0, 97, p), list, 0)
			isWrongAt(t, fmt.Sprint(p, " alone in ", list), addRow(api.Book{}, list, 200, 200, 0, p), list, 0)
		}
	}
}

// Promise 10.2: no code point is in Maps and in Status.
func TestCheckMapsAndStatus(t *testing.T) {
	status := api.Book{Status: []api.Value{{From: 10, To: 20, N: 1}, {From: 30, To: 30, N: 2}, {From: 40, To: 50, N: 3}}}
	for _, c := range [][2]rune{{0, 9}, {21, 29}, {31, 39}, {51, last}, {25, 25}} {
		isWrongAt(t, fmt.Sprint(c), addRow(status, api.ListMaps, c[0], c[1], 0, 97), 0, 0)
	}
	for _, c := range [][2]rune{{0, 10}, {0, last}, {20, 20}, {20, 21}, {12, 15}, {10, 20}, {29, 30}, {30, 30}, {21, 39}, {29, 31}, {50, 50}, {39, 40}, {22, 60}} {
		isWrongAt(t, fmt.Sprint(c), addRow(addRow(status, api.ListMaps, 0, 0, 0, 97), api.ListMaps, max(c[0], 1), c[1], 0, 97), api.ListMaps, 1)
	}
}

// Promise 10.2: which code points rows of Decomp, Class and Excluded may not have.
func TestCheckHangulAndSurrogates(t *testing.T) {
	for _, h := range [][2]rune{{4352, 4370}, {4449, 4469}, {4520, 4546}, {44032, 55203}} {
		for _, list := range []int{api.ListClass, api.ListDecomp, api.ListExcluded} {
			for _, p := range []rune{h[0] - 1, h[1] + 1} {
				isWrongAt(t, fmt.Sprint(p, " in ", list), setRows(api.Book{}, list, []row{plainRow(list, p, p)}), 0, 0)
			}
			for _, p := range []rune{h[0], h[0] + 1, (h[0] + h[1]) / 2, h[1] - 1, h[1]} {
				isWrongAt(t, fmt.Sprint(p, " in ", list), setRows(api.Book{}, list, []row{plainRow(list, 5, 5), plainRow(list, p, p)}), list, 1)
			}
			if list == api.ListDecomp {
				continue
			}
			for _, c := range [][2]rune{{h[0] - 5, h[0]}, {h[1], h[1] + 1}, {h[0] - 1, h[1] + 1}, {h[0] + 1, h[1] - 1}} {
				isWrongAt(t, fmt.Sprint(c, " in ", list), setRows(api.Book{}, list, []row{plainRow(list, c[0], c[1])}), list, 0)
			}
		}
		for _, list := range []int{api.ListStatus, api.ListMaps, api.ListBidi, api.ListJoin, api.ListMarks, api.ListScript, api.ListLike} {
			isWrongAt(t, fmt.Sprint(h, " in ", list), setRows(api.Book{Names: []string{"a"}}, list, []row{plainRow(list, h[0], h[1])}), 0, 0)
		}
		isWrongAt(t, "Hangul as parts", addRow(api.Book{}, api.ListDecomp, 192, 192, 0, h[0], h[1]), 0, 0)
	}
	for _, list := range []int{api.ListStatus, api.ListMaps, api.ListClass, api.ListExcluded, api.ListBidi, api.ListJoin, api.ListMarks, api.ListScript, api.ListLike} {
		isWrongAt(t, fmt.Sprint("surrogates in ", list), setRows(api.Book{Names: []string{"a"}}, list, []row{plainRow(list, 0xd800, 0xdfff)}), 0, 0)
	}
	for _, p := range []rune{0xd800, 0xdabc, 0xdfff} {
		isWrongAt(t, "a surrogate in Decomp", setRows(api.Book{}, api.ListDecomp, []row{plainRow(5, 0xd7ff, 0xd7ff), plainRow(5, p, p)}), api.ListDecomp, 1)
	}
	for _, p := range []rune{0xd7ff, 0xe000} {
		isWrongAt(t, "beside the surrogates", setRows(api.Book{}, api.ListDecomp, []row{plainRow(5, p, p)}), 0, 0)
	}
	isWrongAt(t, "two code points in Decomp", setRows(api.Book{}, api.ListDecomp, []row{plainRow(5, 100, 100), plainRow(5, 101, 102)}), api.ListDecomp, 1)
}

// parts is a book with rows of Decomp: lists of a code point and its parts.
func parts(l ...[]rune) api.Book {
	var b api.Book
	for _, r := range l {
		b = addRow(b, api.ListDecomp, r[0], r[0], 0, r[1:]...)
	}
	return b
}

// Promise 10.2: Decomp as a whole: chains, those that lead to themselves, too long ones, and the same two parts.
func TestCheckWhole(t *testing.T) {
	doubles := func(steps int) [][]rune { // each is two of the next one: 2 to the power of steps code points
		var l [][]rune
		for i := range rune(steps) {
			l = append(l, []rune{100 + i, 101 + i, 101 + i})
		}
		return l
	}
	line := func(many int) [][]rune { // each has the one ahead and one more: many and one code points
		var l [][]rune
		for i := range rune(many) {
			l = append(l, []rune{101 + i, 100 + i, 768 + i})
		}
		return l
	}
	for what, c := range map[string]struct {
		b     api.Book
		place int
	}{
		"a chain":                          {parts([]rune{100, 101}, []rune{101, 102}, []rune{102, 103}), -1},
		"a chain downward":                 {parts([]rune{100, 5}, []rune{101, 100}, []rune{102, 101}), -1},
		"to itself":                        {parts([]rune{100, 5}, []rune{101, 101}), 1},
		"to itself by the second":          {parts([]rune{100, 5}, []rune{101, 5, 101}), 1},
		"two to each other":                {parts([]rune{192, 193}, []rune{193, 192}), 0},
		"three in a ring":                  {parts([]rune{50, 5}, []rune{100, 102}, []rune{101, 7, 100}, []rune{102, 101, 8}), 1},
		"led to a ring":                    {parts([]rune{50, 101}, []rune{100, 100}, []rune{101, 100}), 0},
		"led to a ring behind":             {parts([]rune{50, 5}, []rune{60, 7, 200}, []rune{200, 201}, []rune{201, 200}), 1},
		"led to a ring by the second part": {parts([]rune{50, 60, 200}, []rune{60, 7}, []rune{200, 200}), 0},
		"a ring ahead of one led to it":    {parts([]rune{50, 50}, []rune{60, 50}), 0},
		"not led to the ring behind":       {parts([]rune{50, 60}, []rune{60, 7}, []rune{70, 70}, []rune{80, 70}), 2},
		"16 code points":                   {parts(doubles(4)...), -1},
		"32 code points":                   {parts(doubles(5)...), 0},
		"64 code points":                   {parts(doubles(6)...), 0},
		"2 to the power of 60":             {parts(doubles(60)...), 0},
		"18 code points":                   {parts(line(17)...), -1},
		"19 code points":                   {parts(line(18)...), 17},
		"21 code points":                   {parts(line(20)...), 17},
		"too long behind its cause":        {parts(append([][]rune{{90, 118}}, line(18)...)...), 0},
		"18, beside one":                   {parts(append(line(17), []rune{300, 117})...), -1},
		"18, and one more":                 {parts(append(line(17), []rune{300, 117, 5})...), 17},
		"18 and 18":                        {parts(append(line(17), []rune{300, 117, 117})...), 17},
		"the same two":                     {parts([]rune{192, 65, 768}, []rune{193, 65, 768}), 1},
		"the same two, far apart":          {parts([]rune{192, 65, 768}, []rune{193, 66, 768}, []rune{194, 65, 769}, []rune{195, 768, 65}, []rune{196, 65, 768}, []rune{197, 65, 768}), 4},
		"the same two behind a ring":       {parts([]rune{192, 65, 768}, []rune{193, 193}, []rune{194, 65, 768}), 1},
		"the same two ahead of a ring":     {parts([]rune{192, 65, 768}, []rune{193, 65, 768}, []rune{194, 194}), 1},
		"turned about":                     {parts([]rune{192, 65, 768}, []rune{193, 768, 65}), -1},
		"the same one":                     {parts([]rune{192, 65}, []rune{193, 65}, []rune{194, 65}), -1},
		"one, and twice that one":          {parts([]rune{192, 65}, []rune{193, 65, 65}), -1},
	} {
		if w, e := wantCheck(c.b); len(c.b.Decomp) < 30 && (e == api.OK) != (c.place < 0) {
			t.Errorf("%s: the model says %v, %d", what, w, e)
		}
		if c.place < 0 {
			isWrongAt(t, what, c.b, 0, 0)
		} else {
			isWrongAt(t, what, c.b, api.ListDecomp, c.place)
		}
	}
}

// Promise 10.2, rule R1: chains and rings of MaxRows rows.
func TestCheckLongChains(t *testing.T) {
	l := make([]row, 65536)
	for i := range l {
		p := 0x20000 + rune(i)
		l[i] = row{p, p, 0, []rune{p + 1}}
	}
	isWrongAt(t, "a chain", setRows(api.Book{}, api.ListDecomp, l), 0, 0)
	l[65535].is = []rune{0x20000}
	isWrongAt(t, "a ring", setRows(api.Book{}, api.ListDecomp, l), 5, 0)
	l[65535].is, l[40000].is = []rune{97}, []rune{0x20000 + 30000}
	isWrongAt(t, "led to a ring", setRows(api.Book{}, api.ListDecomp, l), 5, 0)
	for i := range l {
		l[i].is = []rune{max(l[i].from-1, 0x1ffff)}
	}
	isWrongAt(t, "a chain downward", setRows(api.Book{}, api.ListDecomp, l), 0, 0)
	l[30000].is = []rune{97, 0x20000 + 30000}
	isWrongAt(t, "a ring at 30000", setRows(api.Book{}, api.ListDecomp, l), 5, 30000)
}

// Promise 10.2: of several lists the first is told; Decomp as a whole behind all lists.
func TestCheckOrder(t *testing.T) {
	wrong := map[int]func(b api.Book) api.Book{
		1: func(b api.Book) api.Book { b.Names = append(b.Names, "?"); return b },
		// Behind the lists: 12 stands for Decomp as a whole.
		12: func(b api.Book) api.Book { return addRow(b, api.ListDecomp, 300, 300, 0, 300) },
	}
	for list := 2; list <= 11; list++ {
		wrong[list] = func(b api.Book) api.Book {
			r := plainRow(list, 400, 399)
			return addRow(b, list, r.from, r.to, r.n, r.is...)
		}
	}
	fine := api.Book{Names: []string{"Latin"}}
	for list := 2; list <= 11; list++ {
		r := plainRow(list, rune(list), rune(list))
		fine = addRow(fine, list, r.from, r.to, r.n, r.is...)
	}
	isWrongAt(t, "fine", fine, 0, 0)
	for a := 1; a <= 12; a++ {
		b := wrong[a](fine)
		for c := a + 1; c <= 12; c++ {
			if c == 12 && a == 5 {
				continue
			}
			// The ring ahead of the wrong row, so that it could be told first.
			d := wrong[a](wrong[c](fine))
			isWrongAt(t, fmt.Sprint(a, " and ", c, " wrong"), d, a, 1)
			b = wrong[c](b)
		}
		if a < 12 {
			isWrongAt(t, fmt.Sprint("all from ", a, " on wrong"), b, a, 1)
		} else {
			isWrongAt(t, "the whole wrong", b, 5, 1)
		}
	}
	isWrongAt(t, "a ring ahead of a wrong row", addRow(addRow(fine, 5, 300, 300, 0, 300), 5, 400, 399, 0, 97), 5, 2)
}

// damage changes one thing of a book.
func damage(r *rand.Rand, b api.Book) api.Book {
	if r.Intn(12) == 0 {
		b.Names = append(slices.Clone(b.Names), []string{"Latin", "", "a1", "Q", strings.Repeat("q", 33)}[r.Intn(5)])
		return b
	}
	list := 2 + r.Intn(10)
	l := rowsOf(b, list)
	if len(l) == 0 {
		l = append(l, plainRow(list, 100, 100))
	}
	at := r.Intn(len(l))
	other := l[r.Intn(len(l))]
	switch x := &l[at]; r.Intn(9) {
	case 0:
		x.from, x.to = x.to, x.from
	case 1:
		x.to += []rune{1, 2, 4000, last}[r.Intn(4)]
	case 2:
		x.from -= []rune{1, 2, 4000, last}[r.Intn(4)]
	case 3:
		x.n = []int{-1, 0, 1, 3, 4, 5, 6, 22, 23, 254, 255}[r.Intn(11)]
	case 4:
		x.is = []rune{}
	case 5:
		x.is = append(slices.Clone(x.is), []rune{-1, 97, 0xd800, last + 1, other.from}[r.Intn(5)])
	case 6:
		x.from, x.to = other.from, other.to
	case 7:
		x.is = slices.Clone(other.is)
	case 8:
		if len(x.is) > 0 {
			x.is = slices.Clone(x.is)
			x.is[r.Intn(len(x.is))] = other.from
		}
	}
	return setRows(b, list, l)
}

// Promise 10.2: books of every kind, damaged in one and in several places, against the model.
func TestCheckOfMany(t *testing.T) {
	r := rand.New(rand.NewSource(102))
	counts := make(map[int]int)
	for range 4000 {
		b := someBook(r)
		if w, e := Check(b); w != (api.Where{}) || e != api.OK {
			t.Fatalf("Check(%v): %v, %d", b, w, e)
		}
		for range 4 {
			b = damage(r, b)
			want, e := wantCheck(b)
			if w, f := Check(b); w != want || f != e {
				t.Fatalf("Check(%v): %v, %d, not %v, %d", b, w, f, want, e)
			}
			counts[want.List]++
		}
	}
	for list := range 12 {
		if counts[list] < 50 {
			t.Errorf("list %d was told %d times only", list, counts[list])
		}
	}
}

// The chapter's example 2.
func TestCheckExample(t *testing.T) {
	isWrongAt(t, "Status", addRow(api.Book{}, api.ListStatus, 5, 4, 1), 2, 0)
	isWrongAt(t, "Maps", addRow(api.Book{}, api.ListMaps, 65, 65, 0), 3, 0)
	isWrongAt(t, "the same two parts", parts([]rune{192, 65, 768}, []rune{193, 65, 768}), 5, 1)
	isWrongAt(t, "a ring", parts([]rune{192, 193}, []rune{193, 192}), 5, 0)
}
