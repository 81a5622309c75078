package book

import (
	"fmt"
	"math/rand"
	"slices"
	"testing"

	"postern/api"
)

// plainSound is a sound book with little in it.
func plainSound() api.Book {
	b := api.Book{Status: []api.Value{{From: 45, To: 46, N: 1}, {From: 48, To: 57, N: 1}, {From: 97, To: 122, N: 1}}}
	for p := rune('A'); p <= 'Z'; p++ {
		b = addRow(b, api.ListMaps, p, p, 0, p+32)
	}
	return b
}

// richSound is a sound book with letters that are made of others: 224 of a and 768, 300 of 224 and 803, and 400, which is not kept, of 401 and 768.
func richSound() api.Book {
	b := plainSound()
	b.Status = append(b.Status, api.Value{From: 224, To: 224, N: 3}, api.Value{From: 300, To: 300, N: 1}, api.Value{From: 768, To: 770, N: 1}, api.Value{From: 803, To: 804, N: 1}, api.Value{From: 4352, To: 4370, N: 1}, api.Value{From: 4449, To: 4469, N: 1}, api.Value{From: 4520, To: 4546, N: 3}, api.Value{From: 44032, To: 55203, N: 1})
	b = addRow(b, api.ListMaps, 500, 510, 0, 224, 300, 44032)
	b.Class = []api.Value{{From: 768, To: 768, N: 220}, {From: 803, To: 803, N: 230}}
	return addRow(addRow(addRow(b, api.ListDecomp, 224, 224, 0, 97, 768), api.ListDecomp, 300, 300, 0, 224, 803), api.ListDecomp, 400, 400, 0, 401, 768)
}

// putRow is a book with a row more, where it belongs; what it meets gives way, cut where it must be.
func putRow(b api.Book, list int, x row) api.Book {
	l := lessRow(rowsOf(b, list), x.from, x.to)
	l = append(l, x)
	slices.SortFunc(l, func(a, b row) int { return int(a.from - b.from) })
	return setRows(b, list, l)
}

// lessRow is rows without the code points of a span.
func lessRow(l []row, from, to rune) []row {
	var out []row
	for _, r := range l {
		if head := (row{r.from, min(r.to, from-1), r.n, r.is}); head.from <= head.to {
			out = append(out, head)
		}
		if tail := (row{max(r.from, to+1), r.to, r.n, r.is}); tail.from <= tail.to {
			out = append(out, tail)
		}
	}
	return out
}

// as is a book in which a span has another status; 0: none, 4: mapped to a.
func as(b api.Book, from, to rune, status int, is ...rune) api.Book {
	b = setRows(b, api.ListStatus, lessRow(rowsOf(b, api.ListStatus), from, to))
	b = setRows(b, api.ListMaps, lessRow(rowsOf(b, api.ListMaps), from, to))
	switch {
	case status == 4 && len(is) == 0:
		return putRow(b, api.ListMaps, row{from, to, 0, []rune{97}})
	case status == 4:
		return putRow(b, api.ListMaps, row{from, to, 0, is})
	case status > 0:
		return putRow(b, api.ListStatus, row{from, to, status, nil})
	}
	return b
}

// with is a book with a row more, where it belongs.
func with(b api.Book, list int, p rune, n int, is ...rune) api.Book {
	return putRow(b, list, row{p, p, n, is})
}

// wantSound is Sound of a book that may be, by the chapter's words.
func wantSound(b api.Book) (int, rune, api.Errno) {
	all := edges(b)
	for p := rune(0); p < 128; p++ {
		if !soundASCII(b, p) {
			return 1, p, 103
		}
	}
	for _, p := range all {
		if slices.ContainsFunc(says(b, p).Map, func(q rune) bool { return !keptBy(b, q) }) {
			return 2, p, 103
		}
	}
	for _, p := range all {
		if !soundParts(b, p) {
			return 3, p, 103
		}
	}
	for _, r := range b.Decomp {
		if a, c, ok := pairBy(b, r.From); ok && keptBy(b, a) && keptBy(b, c) && !keptBy(b, r.From) {
			return 4, r.From, 103
		}
	}
	var not []rune
	some := false
	for _, p := range all {
		if isHangul(p) && keptBy(b, p) {
			some = true
		} else if isHangul(p) {
			not = append(not, p)
		}
	}
	if some && len(not) > 0 {
		return 5, not[0], 103
	}
	return 0, 0, 0
}

func soundASCII(b api.Book, p rune) bool {
	x := says(b, p)
	switch {
	case p >= 'a' && p <= 'z', p >= '0' && p <= '9', p == '-', p == '.':
		if x.Status != 1 {
			return false
		}
	case p >= 'A' && p <= 'Z':
		if x.Status != 4 || !slices.Equal(x.Map, []rune{p + 32}) {
			return false
		}
	default:
		if x.Status != 0 && x.Status != 1 {
			return false
		}
	}
	for _, r := range b.Decomp {
		if len(r.Is) == 2 && (r.Is[1] == p || p == '.' && r.Is[0] == p) {
			return false
		}
	}
	return !x.Mark && x.Class == 0 && x.Parts == nil && x.Join == 0 && x.Bidi != 1 && x.Bidi != 2 && x.Bidi != 6
}

func soundParts(b api.Book, p rune) bool {
	x := says(b, p)
	if !keptBy(b, p) || x.Parts == nil {
		return true
	}
	if len(x.Parts) != 2 || !keptBy(b, x.Parts[0]) || !keptBy(b, x.Parts[1]) || x.Excluded || x.Class != 0 {
		return false
	}
	first, second := says(b, x.Parts[0]), says(b, x.Parts[1])
	full, _ := wantFull(b.Decomp, x.Parts[0], nil)
	return first.Class == 0 && second.Parts == nil && (second.Class == 0 || second.Class >= says(b, full[len(full)-1]).Class)
}

// pairBy is the two parts that compose to a code point.
func pairBy(b api.Book, c rune) (rune, rune, bool) {
	x := says(b, c)
	if len(x.Parts) != 2 || x.Excluded || x.Class != 0 || says(b, x.Parts[0]).Class != 0 {
		return 0, 0, false
	}
	return x.Parts[0], x.Parts[1], true
}

// isSound holds Sound, and the model, against what is wanted; rule 0: the book is sound.
func isSound(t *testing.T, what string, b api.Book, rule int, p rune) {
	t.Helper()
	want := api.OK
	if rule > 0 {
		want = api.ErrSound
	}
	if n, q, e := Sound(b); n != rule || q != p || e != want {
		t.Errorf("%s: Sound: %d, %d, %d, not %d, %d", what, n, q, e, rule, p)
	}
	if n, q, e := wantSound(b); n != rule || q != p || e != want {
		t.Errorf("%s: the model: %d, %d, %d, not %d, %d", what, n, q, e, rule, p)
	}
}

// Promise 10.3: sound books.
func TestSoundOnes(t *testing.T) {
	isSound(t, "plain", plainSound(), 0, 0)
	isSound(t, "rich", richSound(), 0, 0)
	isSound(t, "the sample", sample(), 0, 0)
	b := plainSound()
	for _, s := range [][2]rune{{0, 44}, {47, 47}, {58, 64}, {91, 96}, {123, 127}} {
		isSound(t, "others valid", as(b, s[0], s[1], 1), 0, 0)
	}
	for _, n := range []int{0, 3, 4, 5, 7, 8, 22} {
		isSound(t, fmt.Sprint("direction ", n), putRow(b, api.ListBidi, row{0, 127, n, nil}), 0, 0)
	}
	isSound(t, "joining U, excluded, scripts and likenesses", with(with(with(api.Book{Names: []string{"a"}, Status: b.Status, Maps: b.Maps}, api.ListJoin, 97, 0), api.ListScript, 97, 1), api.ListLike, 97, 0, 5), 0, 0)
	isSound(t, "ASCII excluded", with(b, api.ListExcluded, 97, 0), 0, 0)
	isSound(t, "ASCII first of two parts", with(b, api.ListDecomp, 200, 0, '0', 300), 0, 0)
	isSound(t, "ASCII alone as parts", with(with(b, api.ListDecomp, 200, 0, 'a'), api.ListDecomp, 201, 0, '.'), 0, 0)
}

// Promise 10.3, rule 1: each thing that it asks of ASCII, broken alone.
func TestSoundASCII(t *testing.T) {
	b := plainSound()
	isSound(t, "without rows", api.Book{}, 1, 45)
	for p := rune(0); p < 128; p++ {
		small, great := p >= 'a' && p <= 'z' || p >= '0' && p <= '9' || p == '-' || p == '.', p >= 'A' && p <= 'Z'
		for status := range 5 {
			fine := status == 1 && !great || status == 0 && !great && !small
			what := fmt.Sprint(p, " has status ", status)
			if fine {
				isSound(t, what, as(b, p, p, status), 0, 0)
			} else if !great || status != 4 || p != 'A' {
				isSound(t, what, as(b, p, p, status), 1, p)
			}
		}
		if great {
			isSound(t, "mapped to two", as(b, p, p, 4, p+32, p+32), 1, p)
			isSound(t, "mapped to another one", as(b, p, p, 4, (p-'A'+1)%26+'a'), 1, p)
			isSound(t, "mapped to itself", as(b, p, p, 4, p), 1, p)
		}
		isSound(t, "a mark", with(b, api.ListMarks, p, 0), 1, p)
		isSound(t, "a class", with(b, api.ListClass, p, 1), 1, p)
		isSound(t, "one part", with(b, api.ListDecomp, p, 0, 200), 1, p)
		isSound(t, "two parts", with(b, api.ListDecomp, p, 0, 200, 201), 1, p)
		for _, n := range []int{1, 2, 3, 4, 5} {
			isSound(t, fmt.Sprint("joining ", n), with(b, api.ListJoin, p, n), 1, p)
		}
		for _, n := range []int{1, 2, 6} {
			isSound(t, fmt.Sprint("direction ", n), with(b, api.ListBidi, p, n), 1, p)
		}
		isSound(t, "the second of two parts", with(b, api.ListDecomp, 300, 0, 200, p), 1, p)
		isSound(t, "the second of two parts of what is excluded", with(with(b, api.ListDecomp, 300, 0, 200, p), api.ListExcluded, 300, 0), 1, p)
		if p == '.' {
			isSound(t, "the first of two parts", with(b, api.ListDecomp, 300, 0, p, 200), 1, p)
		} else {
			isSound(t, "the first of two parts", with(b, api.ListDecomp, 300, 0, p, 200), 0, 0)
		}
	}
	for list, n := range map[int]int{api.ListMarks: 0, api.ListClass: 1, api.ListJoin: 1, api.ListBidi: 1} {
		isSound(t, fmt.Sprint("of 128, list ", list), with(b, list, 128, n), 0, 0)
	}
	isSound(t, "128 second of two parts", with(b, api.ListDecomp, 300, 0, 200, 128), 0, 0)
	isSound(t, "the least of several", with(with(with(b, api.ListMarks, 120, 0), api.ListDecomp, 300, 0, 200, 50), api.ListBidi, 70, 1), 1, 50)
	isSound(t, "the stop, and one above it", with(with(b, api.ListDecomp, 300, 0, '.', 200), api.ListClass, 47, 5), 1, '.')
}

// Promise 10.3, rules 2 to 5, each broken alone, with the least code point.
func TestSoundRules(t *testing.T) {
	b := richSound()
	mapped := func(is ...rune) api.Book { return as(b, 600, 605, 4, is...) }
	isSound(t, "mapped to what is kept", mapped(97, 224, 803), 0, 0)
	isSound(t, "mapped to a deviation alone", mapped(224), 0, 0)
	isSound(t, "mapped to what is disallowed", mapped(97, 700), 2, 600)
	isSound(t, "mapped to what is mapped", mapped(500), 2, 600)
	isSound(t, "mapped to what is ignored", as(as(b, 700, 700, 2), 600, 605, 4, 700, 97), 2, 600)
	isSound(t, "mapped to itself", mapped(603), 2, 600)
	isSound(t, "two that are mapped so", as(mapped(700), 550, 551, 4, 97, 701), 2, 550)
	isSound(t, "what it is mapped to is not kept any more", as(b, 300, 300, 0), 2, 500)

	kept := func(p rune, is ...rune) api.Book { return with(as(b, p, p, 1), api.ListDecomp, p, 0, is...) }
	isSound(t, "two parts", kept(250, 97, 769), 0, 0)
	isSound(t, "a deviation of two parts", as(kept(250, 97, 769), 250, 250, 3), 0, 0)
	isSound(t, "one part", kept(250, 97), 3, 250)
	isSound(t, "one part of what is ignored", as(kept(250, 97), 250, 250, 2), 0, 0)
	isSound(t, "one part of what is mapped", as(kept(250, 97), 250, 250, 4), 0, 0)
	isSound(t, "one part of what is disallowed", as(kept(250, 97), 250, 250, 0), 0, 0)
	isSound(t, "the first not kept", kept(250, 700, 769), 3, 250)
	isSound(t, "the second not kept", kept(250, 97, 700), 3, 250)
	isSound(t, "the first ignored", as(kept(250, 700, 769), 700, 700, 2), 3, 250)
	isSound(t, "the second mapped", kept(250, 97, 500), 3, 250)
	isSound(t, "excluded", with(kept(250, 97, 769), api.ListExcluded, 250, 0), 3, 250)
	isSound(t, "its class", with(kept(250, 97, 769), api.ListClass, 250, 1), 3, 250)
	isSound(t, "the first one's class", kept(250, 768, 769), 3, 250)
	isSound(t, "the second has parts", kept(250, 97, 224), 3, 250)
	isSound(t, "the second has one part", with(kept(250, 97, 769), api.ListDecomp, 769, 0, 770), 3, 250)
	isSound(t, "a Hangul syllable second", kept(250, 97, 44033), 0, 0)
	for n := 1; n <= 254; n++ {
		c := with(kept(250, 300, 770), api.ListClass, 770, n)
		if n < 230 {
			isSound(t, fmt.Sprint("class ", n, " behind 230"), c, 3, 250)
		} else {
			isSound(t, fmt.Sprint("class ", n, " behind 230"), c, 0, 0)
		}
	}
	isSound(t, "class 0 behind 230", kept(250, 300, 770), 0, 0)
	isSound(t, "two of rule 3", with(as(kept(350, 97), 250, 250, 1), api.ListDecomp, 250, 0, 98), 3, 250)

	isSound(t, "a pair of kept ones", as(kept(250, 97, 769), 250, 250, 0), 4, 250)
	isSound(t, "a pair of kept ones, ignored", as(kept(250, 97, 769), 250, 250, 2), 4, 250)
	isSound(t, "a pair of kept ones, mapped", as(kept(250, 97, 769), 250, 250, 4), 4, 250)
	isSound(t, "excluded", with(as(kept(250, 97, 769), 250, 250, 0), api.ListExcluded, 250, 0), 0, 0)
	isSound(t, "with a class", with(as(kept(250, 97, 769), 250, 250, 0), api.ListClass, 250, 7), 0, 0)
	isSound(t, "the first with a class", as(kept(250, 768, 769), 250, 250, 0), 0, 0)
	isSound(t, "the first not kept", as(kept(250, 700, 769), 250, 250, 0), 0, 0)
	isSound(t, "the second not kept", as(kept(250, 97, 700), 250, 250, 0), 0, 0)
	isSound(t, "one part", as(kept(250, 97), 250, 250, 0), 0, 0)
	isSound(t, "two of rule 4", as(with(as(kept(350, 97, 769), 350, 350, 0), api.ListDecomp, 250, 0, 97, 770), 250, 250, 0), 4, 250)
}

// Promise 10.3, rule 5: Hangul by halves.
func TestSoundHangul(t *testing.T) {
	whole, none := richSound(), plainSound()
	for _, h := range [][2]rune{{4352, 4370}, {4449, 4469}, {4520, 4546}, {44032, 55203}} {
		for _, p := range []rune{h[0], h[0] + 1, h[1] - 1, h[1]} {
			if p != 44032 {
				isSound(t, fmt.Sprint("all but ", p), as(whole, p, p, 0), 5, p)
			}
			isSound(t, fmt.Sprint("all but ", p, ", ignored"), as(as(whole, 500, 510, 0), p, p, 2), 5, p)
			least := rune(4352)
			if p == least {
				least++
			}
			isSound(t, fmt.Sprint("none but ", p), as(none, p, p, 1), 5, least)
			isSound(t, fmt.Sprint("none but the deviation ", p), as(none, p, p, 3), 5, least)
			isSound(t, fmt.Sprint("none, ", p, " ignored"), as(none, p, p, 2), 0, 0)
			isSound(t, fmt.Sprint("none, ", p, " mapped"), as(none, p, p, 4), 0, 0)
			isSound(t, fmt.Sprint("all but two of ", h), as(as(whole, 500, 510, 0), h[0]+3, h[0]+4, 4), 5, h[0]+3)
		}
		for _, p := range []rune{h[0] - 1, h[1] + 1} {
			isSound(t, fmt.Sprint("beside, ", p), as(none, p, p, 1), 0, 0)
		}
	}
	isSound(t, "syllables alone", as(none, 44032, 55203, 1), 5, 4352)
}

// Promise 10.3: of several rules the first is told.
func TestSoundOrder(t *testing.T) {
	b := richSound()
	breaks := []func(b api.Book) (api.Book, rune){
		func(b api.Book) (api.Book, rune) { return with(b, api.ListMarks, 100, 0), 100 },
		func(b api.Book) (api.Book, rune) { return as(b, 900, 900, 4, 901), 900 },
		func(b api.Book) (api.Book, rune) { return with(as(b, 250, 250, 1), api.ListDecomp, 250, 0, 97), 250 },
		func(b api.Book) (api.Book, rune) { return with(b, api.ListDecomp, 200, 0, 97, 769), 200 },
		func(b api.Book) (api.Book, rune) { return as(b, 4355, 4355, 0), 4355 },
	}
	for set := range 32 {
		c, rule, least := b, 0, rune(0)
		for i := len(breaks) - 1; i >= 0; i-- {
			if set>>i&1 == 1 {
				rule = i + 1
				c, least = breaks[i](c)
			}
		}
		isSound(t, fmt.Sprintf("rules %05b", set), c, rule, least)
	}
}

// Promise 10.3: many books near to sound ones, against the model.
func TestSoundOfMany(t *testing.T) {
	r := rand.New(rand.NewSource(103))
	told := make(map[int]int)
	for i := range 2400 {
		b := []api.Book{richSound(), sample()}[i%16/15]
		for range 1 + r.Intn(3) {
			pool := []rune{45, 46, 65, 97, 98, 224, 250, 300, 301, 400, 401, 500, 768, 769, 803, 804, 900, 4352, 4546, 44032}
			p, q, s := pool[r.Intn(len(pool))], pool[r.Intn(len(pool))], pool[r.Intn(len(pool))]
			if p < 128 && r.Intn(4) > 0 {
				p = 250
			}
			c := b
			switch r.Intn(7) {
			case 0:
				c = as(b, p, p, r.Intn(5))
			case 1:
				c = as(b, p, p, 4, q, s)
			case 2:
				c = with(b, api.ListClass, p, []int{1, 219, 220, 221, 230, 254}[r.Intn(6)])
			case 3:
				c = with(b, api.ListDecomp, p, 0, q, s)
			case 4:
				c = with(as(b, p, p, 1), api.ListDecomp, p, 0, q, s)
			case 5:
				c = with(b, api.ListExcluded, p, 0)
			case 6:
				c = with(b, api.ListDecomp, p, 0, q)
			}
			if _, e := wantCheck(c); e == api.OK {
				b = c
			}
		}
		n, p, e := Sound(b)
		if m, q, f := wantSound(b); n != m || p != q || e != f {
			t.Fatalf("Sound(%v): %d, %d, %d, not %d, %d, %d", b, n, p, e, m, q, f)
		}
		told[n]++
		if n == 0 && i%5 == 0 {
			comesBackAgain(t, b)
		}
	}
	for rule := range 6 {
		if told[rule] < 20 {
			t.Errorf("rule %d was told %d times only", rule, told[rule])
		}
	}
}

// Promise 10.6: in a sound book what is kept comes apart into what is kept, in canonical order, and composes again, by Pair alone.
func comesBackAgain(t *testing.T, b api.Book) {
	t.Helper()
	x := compiled(t, b)
	for _, r := range b.Decomp {
		if !x.Kept(r.From) {
			continue
		}
		full, _ := wantFull(b.Decomp, r.From, nil)
		whole := full[0]
		for i, p := range full {
			if !x.Kept(p) || i > 0 && x.Class(p) != 0 && x.Class(p) < x.Class(full[i-1]) {
				t.Fatalf("%d of %v: %d is not kept, or out of order", r.From, full, p)
			}
			if i == 0 {
				continue
			}
			c, ok := x.Pair(whole, p)
			if !ok {
				t.Fatalf("%d of %v: %d and %d do not compose", r.From, full, whole, p)
			}
			whole = c
		}
		if whole != r.From {
			t.Fatalf("%d of %v composes to %d", r.From, full, whole)
		}
	}
}

// Rule R1: many rows that lead to one long chain end soon.
func TestSoundLongChain(t *testing.T) {
	b := as(plainSound(), 0x20000, 0x2ffff, 1)
	l := make([]row, 65536)
	for i := range rune(32768) {
		p := 0x20000 + i
		l[i] = row{p, p, 0, []rune{0x28000, 0x20000 - 1 - i}}
		l[32768+i] = row{p + 32768, p + 32768, 0, []rune{p + 32769}}
	}
	b = as(setRows(b, api.ListDecomp, l), 0x18000, 0x1ffff, 1)
	b = as(b, 0x30000, 0x30000, 1)
	b.Class = []api.Value{{From: 0x18000, To: 0x18000, N: 5}, {From: 0x18001, To: 0x1ffff, N: 9}, {From: 0x30000, To: 0x30000, N: 9}}
	if n, p, e := Sound(b); n != 3 || p != 0x20000+0x7fff || e != api.ErrSound {
		t.Errorf("Sound: %d, %x, %d", n, p, e)
	}
}
