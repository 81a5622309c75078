package canon

import (
	"fmt"
	"math/rand"
	"slices"
	"testing"

	"postern/api"
	"postern/book"
	"postern/sample"
)

// Promise 12.1: Full, by hand.
func TestFull(t *testing.T) {
	x := compiled(t, someBook())
	for _, c := range []struct {
		p    rune
		want []rune
	}{
		// None: letters, marks, jamo, what stands about the rows and about Hangul, surrogates.
		{0, []rune{0}}, {65, []rune{65}}, {191, []rune{191}}, {195, []rune{195}}, {768, []rune{768}}, {4352, []rune{4352}}, {4449, []rune{4449}}, {4520, []rune{4520}}, {44031, []rune{44031}}, {55204, []rune{55204}}, {0xd800, []rune{0xd800}}, {0xdfff, []rune{0xdfff}}, {0x10fffe, []rune{0x10fffe}},
		// One, two, chains of both.
		{837, []rune{776, 769}}, {212, []rune{65, 768}}, {0x10ffff, []rune{0x10fffe}},
		{192, []rune{65, 768}}, {836, []rune{776, 769}}, {302, []rune{768, 65}}, {838, []rune{0xffff, 0xe000}},
		// A full decomposition stands as its parts say, not in the canonical order.
		{193, []rune{65, 768, 803}}, {194, []rune{65, 768, 803, 807}}, {200, []rune{69, 803, 807, 768}}, {201, []rune{803, 807, 768}}, {202, []rune{803, 807}},
		{210, []rune{65, 768}}, {211, []rune{65, 768}}, {220, []rune{65, 768, 65, 768, 803, 807}}, {300, []rune{65, 803}}, {301, []rune{65, 803, 768}},
		// Syllables, and parts that are.
		{44032, []rune{4352, 4449}}, {44033, []rune{4352, 4449, 4520}}, {44059, []rune{4352, 4449, 4546}}, {44060, []rune{4352, 4450}}, {44620, []rune{4353, 4449}}, {55176, []rune{4370, 4469}}, {55203, []rune{4370, 4469, 4546}},
		{230, []rune{4352, 4449}}, {231, []rune{4352, 4449, 4520, 768}}, {232, []rune{4370, 4469, 4546, 4352, 4450}}, {233, []rune{4352, 4449, 4520, 768, 803}}, {234, []rune{4352, 4449}},
		// No code points.
		{-1, []rune{-1}}, {0x110000, []rune{0x110000}}, {least, []rune{least}}, {most, []rune{most}}, {-44032, []rune{-44032}}, {-192, []rune{-192}}, {192 - 0x40000000 - 0x40000000, []rune{192 + least}},
	} {
		isList(t, fmt.Sprintf("Full(%d)", c.p), Full(x, c.p), c.want...)
	}
}

// Promise 12.1: Full of each code point there is.
func TestFullOfAll(t *testing.T) {
	b := someBook()
	x, m := compiled(t, b), modelOf(b)
	for p := rune(-100); p < 0x110100; p++ {
		want := []rune{p}
		if p < 1000 || m.jamo[p] != nil || p >= 0x10fff0 && p < 0x110000 {
			want = m.apart(want)
		}
		if got := Full(x, p); !slices.Equal(got, want) {
			t.Fatalf("Full(%d): %v, not %v", p, got, want)
		}
	}
}

// Promise 12.1, of a part that is a syllable: what a book's full decomposition has of them, of which it may have 18.
func TestFullOfManySyllables(t *testing.T) {
	var b api.Book
	for i := range rune(17) {
		ahead := 199 + i
		if i == 0 {
			ahead = 55203
		}
		b.Decomp = append(b.Decomp, row(200+i, ahead, 44033+i))
	}
	got := Full(compiled(t, b), 216)
	want := []rune{4370, 4469, 4546}
	for i := range rune(17) {
		want = append(want, 4352, 4449, 4520+i)
	}
	isList(t, "18 syllables", got, want...)
}

// Promise 12.1, rule R1: chains of as many rows as a book may have, up and down, which single parts and two go through.
func TestFullOfLongChains(t *testing.T) {
	var up, down api.Book
	for i := range rune(65536) {
		p := 0x20000 + i
		switch {
		case i == 65535:
			up.Decomp = append(up.Decomp, row(p, 44033))
		case i%5000 == 4999:
			up.Decomp = append(up.Decomp, row(p, p+1, 768))
		default:
			up.Decomp = append(up.Decomp, row(p, p+1))
		}
		switch {
		case i == 0:
			down.Decomp = append(down.Decomp, row(p, 44033))
		case i%5000 == 4999:
			down.Decomp = append(down.Decomp, row(p, 768, p-1))
		default:
			down.Decomp = append(down.Decomp, row(p, p-1))
		}
	}
	marks := slices.Repeat([]rune{768}, 13)
	isList(t, "up", Full(compiled(t, up), 0x20000), append([]rune{4352, 4449, 4520}, marks...)...)
	isList(t, "down", Full(compiled(t, down), 0x2ffff), append(marks, 4352, 4449, 4520)...)
}

// Promise 12.1: Order and Ordered, by hand: 768 and 769 are of class 230, 803 is of 220, 807 of 202, 2364 of 1, 0xd800 of 254, 65 and what is no code point of 0.
func TestOrder(t *testing.T) {
	x := compiled(t, someBook())
	for _, c := range []struct {
		l, want []rune
		ordered int
	}{
		{nil, nil, -1}, {[]rune{}, nil, -1}, {[]rune{65}, []rune{65}, -1}, {[]rune{768}, []rune{768}, -1}, {[]rune{65, 66, 64}, []rune{65, 66, 64}, -1},
		// At the front, in the middle, at the end.
		{[]rune{768, 803}, []rune{803, 768}, 1}, {[]rune{768, 803, 65}, []rune{803, 768, 65}, 1}, {[]rune{65, 768, 803, 66}, []rune{65, 803, 768, 66}, 2}, {[]rune{65, 66, 768, 803}, []rune{65, 66, 803, 768}, 3},
		{[]rune{768, 803, 65, 803, 807, 66, 769, 768, 2364}, []rune{803, 768, 65, 807, 803, 66, 2364, 769, 768}, 1}, {[]rune{803, 768, 65, 807, 803, 66, 769, 768, 2364}, []rune{803, 768, 65, 807, 803, 66, 2364, 769, 768}, 8},
		// In order already.
		{[]rune{803, 768}, []rune{803, 768}, -1}, {[]rune{65, 2364, 807, 803, 768, 0xd800}, []rune{65, 2364, 807, 803, 768, 0xd800}, -1}, {[]rune{768, 65, 803}, []rune{768, 65, 803}, -1}, {[]rune{0xd800, 65, 2364}, []rune{0xd800, 65, 2364}, -1},
		// The other way about.
		{[]rune{0xd800, 768, 803, 807, 2364}, []rune{2364, 807, 803, 768, 0xd800}, 1},
		// Of one class as they stood.
		{[]rune{769, 768}, []rune{769, 768}, -1}, {[]rune{769, 768, 803, 769, 768}, []rune{803, 769, 768, 769, 768}, 2}, {[]rune{65, 776, 0xd801, 768, 0xd800, 769}, []rune{65, 776, 768, 769, 0xd801, 0xd800}, 3}, {[]rune{768, 768, 768}, []rune{768, 768, 768}, -1},
		// One of class 0 stands between, however it comes to that.
		{[]rune{768, 790, 803}, []rune{768, 790, 803}, -1}, {[]rune{768, -1, 803}, []rune{768, -1, 803}, -1}, {[]rune{768, 0x110000, 803}, []rune{768, 0x110000, 803}, -1}, {[]rune{768, most, 803, least, 807}, []rune{768, most, 803, least, 807}, -1}, {[]rune{768, 0, 803}, []rune{768, 0, 803}, -1}, {[]rune{768, 4520, 803}, []rune{768, 4520, 803}, -1},
		// What has parts is not taken apart: 192 and a syllable are of class 0, 300 is of class 7, 836 of 230, 837 of 0.
		{[]rune{768, 192, 803}, []rune{768, 192, 803}, -1}, {[]rune{768, 44033, 803}, []rune{768, 44033, 803}, -1}, {[]rune{768, 300}, []rune{300, 768}, 1}, {[]rune{836, 803}, []rune{803, 836}, 1}, {[]rune{768, 837, 803}, []rune{768, 837, 803}, -1},
	} {
		isList(t, fmt.Sprintf("Order(%v)", c.l), Order(x, c.l), c.want...)
		if got := Ordered(x, c.l); got != c.ordered {
			t.Errorf("Ordered(%v): %d, not %d", c.l, got, c.ordered)
		}
	}
}

// Promise 12.1: Order and Ordered of every short list, against the model.
func TestOrderOfAllShortLists(t *testing.T) {
	b := someBook()
	x, m := compiled(t, b), modelOf(b)
	for length := range 7 {
		lists(length, []rune{65, 768, 769, 803, 2364, -1}, func(l []rune) {
			isOrder(t, x, m, l)
		})
	}
}

func isOrder(t *testing.T, x *book.Tables, m model, l []rune) {
	t.Helper()
	if got, want := Order(x, l), m.order(l); !slices.Equal(got, want) {
		t.Errorf("Order(%v): %v, not %v", l, got, want)
	}
	if got, want := Ordered(x, l), m.ordered(l); got != want {
		t.Errorf("Ordered(%v): %d, not %d", l, got, want)
	}
}

// Promise 12.1: each code point's class goes into the order: beside a mark it changes places, or does not.
func TestOrderOfAllClasses(t *testing.T) {
	b := someBook()
	x, m := compiled(t, b), modelOf(b)
	for _, p := range somePoints() {
		for _, q := range []rune{65, 768, 803, 2364, 300, 0xd800} {
			isOrder(t, x, m, []rune{p, q})
			isOrder(t, x, m, []rune{65, q, p, q, p})
		}
	}
}

// Promise 12.1, rule R1: long runs, in order and the other way about.
func TestOrderOfLongRuns(t *testing.T) {
	const many = 1 << 18
	x := compiled(t, someBook())
	l, want := []rune{803}, []rune{803}
	l = append(append(l, slices.Repeat([]rune{768}, many)...), slices.Repeat([]rune{803, 769}, many)...)
	want = append(append(append(want, slices.Repeat([]rune{803}, many)...), slices.Repeat([]rune{768}, many)...), slices.Repeat([]rune{769}, many)...)
	for _, got := range [][]rune{Order(x, l), Order(x, want), Decompose(x, l)} {
		if !slices.Equal(got, want) {
			t.Errorf("%d code points in another order", len(got))
		}
	}
	if at := Ordered(x, l); at != many+1 {
		t.Errorf("Ordered: %d", at)
	}
	if at := Ordered(x, want); at != -1 {
		t.Errorf("Ordered: %d", at)
	}
}

// Promise 12.1: Decompose, by hand.
func TestDecompose(t *testing.T) {
	x := compiled(t, someBook())
	for _, c := range []struct{ l, want []rune }{
		{nil, nil}, {[]rune{}, nil}, {[]rune{66}, []rune{66}}, {[]rune{192}, []rune{65, 768}},
		// Marks go ahead of those that a letter was made of, and of those of a letter's own full decomposition.
		{[]rune{192, 803}, []rune{65, 803, 768}}, {[]rune{194}, []rune{65, 807, 803, 768}}, {[]rune{194, 769, 803, 2364}, []rune{65, 2364, 807, 803, 803, 768, 769}}, {[]rune{768, 300, 807}, []rune{768, 65, 807, 803}},
		// What begins with a mark, or is marks alone, goes behind what stands ahead.
		{[]rune{65, 768, 302}, []rune{65, 768, 768, 65}}, {[]rune{65, 769, 201}, []rune{65, 807, 803, 769, 768}}, {[]rune{65, 837, 803}, []rune{65, 803, 776, 769}}, {[]rune{768, 803, 836}, []rune{803, 768, 776, 769}},
		// Jamo are of class 0.
		{[]rune{44033, 768, 803, 44032}, []rune{4352, 4449, 4520, 803, 768, 4352, 4449}}, {[]rune{231, 803, 233}, []rune{4352, 4449, 4520, 803, 768, 4352, 4449, 4520, 803, 768}},
		{[]rune{-1, 768, 803, most, 192, 0x110000, least}, []rune{-1, 803, 768, most, 65, 768, 0x110000, least}},
	} {
		isList(t, fmt.Sprintf("Decompose(%v)", c.l), Decompose(x, c.l), c.want...)
	}
}

// Promise 12.1: Decompose of every short list, against the model.
func TestDecomposeOfAllShortLists(t *testing.T) {
	b := someBook()
	x, m := compiled(t, b), modelOf(b)
	check := func(l []rune) {
		if got, want := Decompose(x, l), m.decompose(l); !slices.Equal(got, want) {
			t.Errorf("Decompose(%v): %v, not %v", l, got, want)
		}
	}
	for length := range 6 {
		lists(length, []rune{65, 768, 803, 194, 200, 837, 302, 44033}, check)
	}
	for length := range 3 {
		lists(length, somePoints(), check)
	}
}

// Promises 12.1 and 12.5: all calls by books of every kind, against the model.
func TestOfMany(t *testing.T) {
	r := rand.New(rand.NewSource(121))
	equivalent := 0
	for range 300 {
		b, x := randomBook(t, r)
		m := modelOf(b)
		for range 30 {
			l := randomList(r, 12)
			isOrder(t, x, m, l)
			want := m.decompose(l)
			if got := Decompose(x, l); !slices.Equal(got, want) {
				t.Fatalf("Decompose(%v): %v, not %v", l, got, want)
			}
			for _, p := range l {
				if got, want := Full(x, p), m.apart([]rune{p}); !slices.Equal(got, want) {
					t.Fatalf("Full(%d): %v, not %v", p, got, want)
				}
			}
			other := changed(r, m, l)
			same := slices.Equal(want, m.decompose(other))
			if got := Equivalent(x, l, other); got != same || Equivalent(x, other, l) != same {
				t.Fatalf("Equivalent(%v, %v): %v", l, other, got)
			}
			if same && !slices.Equal(l, other) {
				equivalent++
			}
		}
	}
	if equivalent < 500 {
		t.Errorf("only %d that are equivalent", equivalent)
	}
}

// changed is a list that is likely, and not sure, to be equivalent.
func changed(r *rand.Rand, m model, l []rune) []rune {
	l = slices.Clone(l)
	if len(l) < 2 {
		return l
	}
	for range 1 + r.Intn(3) {
		at := r.Intn(len(l) - 1)
		if r.Intn(3) == 0 {
			l = slices.Concat(l[:at], m.apart(l[at:at+1]), l[at+1:])
		} else {
			l[at], l[at+1] = l[at+1], l[at]
		}
	}
	return l
}

// Promise 12.1: Equivalent, by hand.
func TestEquivalent(t *testing.T) {
	x := compiled(t, someBook())
	for _, c := range []struct {
		a, b []rune
		want bool
	}{
		{nil, nil, true}, {nil, []rune{}, true}, {nil, []rune{65}, false}, {nil, []rune{0}, false}, {[]rune{65}, []rune{66}, false}, {[]rune{192}, []rune{192}, true},
		{[]rune{192}, []rune{65, 768}, true}, {[]rune{192}, []rune{210}, true}, {[]rune{192}, []rune{65, 769}, false}, {[]rune{192}, []rune{65}, false}, {[]rune{192, 65}, []rune{65, 768}, false},
		{[]rune{192, 803}, []rune{300, 768}, true}, {[]rune{193}, []rune{301}, true}, {[]rune{65, 768, 803}, []rune{65, 803, 768}, true}, {[]rune{65, 768, 769}, []rune{65, 769, 768}, false}, {[]rune{768, 65, 803}, []rune{803, 65, 768}, false}, {[]rune{302}, []rune{192}, false},
		{[]rune{44033}, []rune{4352, 4449, 4520}, true}, {[]rune{44033}, []rune{44032, 4520}, true}, {[]rune{44032}, []rune{4352, 4449, 4519}, false}, {[]rune{44032}, []rune{230}, true}, {[]rune{230, 4520}, []rune{44033}, true}, {[]rune{234, 4520, 768}, []rune{231}, true},
		// What is taken for another, mapped to it or excluded has no part in it.
		{[]rune{65}, []rune{98}, false}, {[]rune{66}, []rune{98}, false}, {[]rune{768}, []rune{769}, false},
		{[]rune{-1}, []rune{-1}, true}, {[]rune{-1}, []rune{0x110000}, false}, {[]rune{least, 768, 803}, []rune{least, 803, 768}, true}, {[]rune{0xd800, 768}, []rune{768, 0xd800}, true},
	} {
		if got := Equivalent(x, c.a, c.b); got != c.want {
			t.Errorf("Equivalent(%v, %v): %v", c.a, c.b, got)
		}
		if got := Equivalent(x, c.b, c.a); got != c.want {
			t.Errorf("Equivalent(%v, %v): %v", c.b, c.a, got)
		}
	}
}

// Promise 12.4: nil tables are those of a book without rows: only Hangul is taken apart, and nothing has a class.
func TestNilTables(t *testing.T) {
	empty, jamo := compiled(t, api.Book{}), allJamo()
	for _, x := range []*book.Tables{nil, empty} {
		for _, p := range somePoints() {
			want := jamo[p]
			if want == nil {
				want = []rune{p}
			}
			isList(t, fmt.Sprintf("Full(%d)", p), Full(x, p), want...)
		}
		l := []rune{192, 768, 803, 44033, 807, 300, -1, 44032}
		isList(t, "Order", Order(x, l), l...)
		if at := Ordered(x, l); at != -1 {
			t.Errorf("Ordered: %d", at)
		}
		isList(t, "Decompose", Decompose(x, l), 192, 768, 803, 4352, 4449, 4520, 807, 300, -1, 4352, 4449)
		if Equivalent(x, []rune{192}, []rune{65, 768}) || Equivalent(x, []rune{768, 803}, []rune{803, 768}) || !Equivalent(x, []rune{44033, 192}, []rune{44032, 4520, 192}) {
			t.Error("Equivalent")
		}
		for _, l := range [][]rune{nil, {}} {
			if len(Order(x, l)) != 0 || len(Decompose(x, l)) != 0 || Ordered(x, l) != -1 || !Equivalent(x, l, nil) {
				t.Error("of nothing")
			}
		}
	}
}

// Promise 12.5: Decompose of Decompose is the same; of two lists it is Order of both Decomposes; Order keeps all code points, and is Ordered.
func TestWhatFollows(t *testing.T) {
	r := rand.New(rand.NewSource(125))
	for range 300 {
		_, x := randomBook(t, r)
		for range 30 {
			a, b := randomList(r, 10), randomList(r, 10)
			da, db := Decompose(x, a), Decompose(x, b)
			if again := Decompose(x, da); !slices.Equal(again, da) {
				t.Fatalf("Decompose(%v): %v, and of that %v", a, da, again)
			}
			whole, joined := Decompose(x, slices.Concat(a, b)), Order(x, slices.Concat(da, db))
			if !slices.Equal(whole, joined) {
				t.Fatalf("%v and %v: %v, not %v", a, b, joined, whole)
			}
			in := Order(x, a)
			if !slices.Equal(slices.Sorted(slices.Values(in)), slices.Sorted(slices.Values(a))) {
				t.Fatalf("Order(%v): %v", a, in)
			}
			if at := Ordered(x, in); at != -1 {
				t.Fatalf("Order(%v): %v, which is not in order at %d", a, in, at)
			}
			if at := Ordered(x, da); at != -1 {
				t.Fatalf("Decompose(%v): %v, which is not in order at %d", a, da, at)
			}
			if !slices.Equal(Order(x, in), in) || (Ordered(x, a) == -1) != slices.Equal(a, in) {
				t.Fatalf("Order(%v): %v", a, in)
			}
		}
	}
}

// Promise 12.5: marks of unlike classes in every order have one normal form D.
func TestOrdersOfMarks(t *testing.T) {
	x := compiled(t, someBook())
	want := []rune{65, 2364, 807, 795, 803, 768, 768, 0xd800, 66}
	marks := []rune{0xd800, 768, 803, 795, 807, 2364}
	many := 0
	var turn func(at int)
	turn = func(at int) {
		if at == len(marks) {
			many++
			l := slices.Concat([]rune{192}, marks, []rune{66})
			isList(t, fmt.Sprint("Decompose of ", l), Decompose(x, l), want...)
			if !Equivalent(x, l, want) {
				t.Errorf("Equivalent(%v, %v)", l, want)
			}
			return
		}
		for i := at; i < len(marks); i++ {
			marks[at], marks[i] = marks[i], marks[at]
			turn(at + 1)
			marks[at], marks[i] = marks[i], marks[at]
		}
	}
	turn(0)
	if many != 720 {
		t.Errorf("%d orders", many)
	}
}

// By the sample book, each code point that it speaks of, and some as Unicode has them.
func TestBySample(t *testing.T) {
	x, m := sample.Tables(), modelOf(sample.Book())
	for p := rune(0); p < 0x3100; p++ {
		want := m.apart([]rune{p})
		isList(t, fmt.Sprintf("Full(%x)", p), Full(x, p), want...)
		isList(t, fmt.Sprintf("Decompose(%x)", p), Decompose(x, []rune{p}), m.order(want)...)
	}
	isList(t, "1E69", Decompose(x, []rune{0x1e69}), 's', 0x323, 0x307)
	isList(t, "s 0307 0323", Decompose(x, []rune{'s', 0x307, 0x323}), 's', 0x323, 0x307)
	isList(t, "212B", Decompose(x, []rune{0x212b}), 'A', 0x30a)
	isList(t, "2126", Decompose(x, []rune{0x2126}), 0x3a9)
	isList(t, "0958, which is excluded", Decompose(x, []rune{0x958, 0x94d}), 0x915, 0x93c, 0x94d)
	isList(t, "marks of Hebrew", Order(x, []rune{0x5d0, 0x5b9, 0x5b4, 0x5b0}), 0x5d0, 0x5b0, 0x5b4, 0x5b9)
	isList(t, "E7 and 031B", Decompose(x, []rune{0xe7, 0x315, 0x31b, 0x301}), 'c', 0x327, 0x31b, 0x301, 0x315)
}

// The chapter's examples.
func TestExamples(t *testing.T) {
	x := compiled(t, api.Book{Decomp: []api.Chars{row(192, 65, 768)}, Class: []api.Value{{From: 768, To: 789, N: 230}, {From: 803, To: 803, N: 220}}})
	isList(t, "Full(192)", Full(x, 192), 65, 768)
	isList(t, "Decompose(192 803)", Decompose(x, []rune{192, 803}), 65, 803, 768)
	if at := Ordered(x, []rune{768, 803}); at != 1 {
		t.Errorf("Ordered(768 803): %d", at)
	}
	isList(t, "Full(44033)", Full(x, 44033), 4352, 4449, 4520)
	if l, v, third, ok := Syllable(44032); l != 4352 || v != 4449 || third != 0 || !ok {
		t.Errorf("Syllable(44032): %d, %d, %d, %v", l, v, third, ok)
	}
	if p, ok := Hangul(4352, 4449, 4519); p != 0 || ok {
		t.Errorf("Hangul(4352, 4449, 4519): %d, %v", p, ok)
	}
	if p, ok := Hangul(4352, 4449, 4520); p != 44033 || !ok {
		t.Errorf("Hangul(4352, 4449, 4520): %d, %v", p, ok)
	}
	if !Equivalent(x, []rune{192}, []rune{65, 768}) {
		t.Error("Equivalent(192, 65 768)")
	}
	d := NewDecomposer(x)
	isList(t, "Feed(192)", d.Feed([]rune{192}))
	isList(t, "Feed(803)", d.Feed([]rune{803}))
	isList(t, "Feed(66)", d.Feed([]rune{66}), 65, 803, 768)
	isList(t, "End", d.End(), 66)
}
