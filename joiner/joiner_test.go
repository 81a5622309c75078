package joiner

import (
	"math/rand"
	"slices"
	"testing"
	"time"

	"postern/api"
	"postern/book"
	"postern/sample"
)

// isRefused holds Allowed and Check against the places, told by hand, at which one of the two may not stand.
func isRefused(t *testing.T, x *book.Tables, label []rune, places ...int) {
	t.Helper()
	for i := range label {
		if got, want := Allowed(x, label, i), !slices.Contains(places, i); got != want {
			t.Errorf("Allowed(%v, %d): %v", label, i, got)
		}
	}
	first := -1
	if len(places) != 0 {
		first = places[0]
	}
	if got := Check(x, label); got != first {
		t.Errorf("Check(%v): %d, not %d", label, got, first)
	}
}

func haveShapes(t *testing.T, x *book.Tables, label []rune, want ...int) {
	t.Helper()
	if got := Shapes(x, label); !slices.Equal(got, want) {
		t.Errorf("Shapes(%v): %v, not %v", label, got, want)
	}
}

// Promise 17.1: at no place of a label nothing is allowed, whatever the label is.
func TestAllowedAtNoPlace(t *testing.T) {
	for _, x := range []*book.Tables{nil, compiled(t, someBook())} {
		for _, label := range [][]rune{nil, {}, {'a'}, {n}, {vu, j}, {d, n, d}} {
			// Room behind the label's end is none of it.
			label = append(make([]rune, 0, 10), label...)
			copy(label[len(label):10], []rune{'a', 'a', 'a'})
			for _, i := range []int{-1 << 63, -1 << 32, least, -3, -2, -1, len(label), len(label) + 1, len(label) + 2, 10, 11, most, 1 << 32, 1<<63 - 1} {
				if Allowed(x, label, i) {
					t.Errorf("Allowed(%v, %d)", label, i)
				}
			}
		}
	}
}

// Promise 17.1: behind a virama both may stand, behind what is none of that class neither, nor at the front.
func TestBehindVirama(t *testing.T) {
	x := compiled(t, someBook())
	for _, one := range []rune{n, j} {
		for _, virama := range []rune{vu, vd, vt, 0, 0xd800, 0xd801, 0x10ffff} {
			isRefused(t, x, []rune{virama, one})
			isRefused(t, x, []rune{virama, one, u})
			isRefused(t, x, []rune{'a', virama, one, 'a'})
			isRefused(t, x, []rune{virama, one, virama, one})
			// Just right ahead: no letter, no T and no other one between; and not behind.
			isRefused(t, x, []rune{virama, 'a', one}, 2)
			isRefused(t, x, []rune{virama, tr, one}, 2)
			isRefused(t, x, []rune{virama, one, one}, 2)
			isRefused(t, x, []rune{one, virama}, 0)
		}
		for _, other := range []rune{'a', u, l, r, d, tr, c, 3003, 3004, 3005, 3006, 0xd7ff, 0xd802, 0xdfff, 0x10fffe, -1, least, most, 0x110000, vu + 0x110000, vd - 0x110000, 9, n, j} {
			at := []int{1}
			if other == n || other == j {
				at = []int{0, 1}
			}
			isRefused(t, x, []rune{other, one}, at...)
		}
		isRefused(t, x, []rune{one}, 0)
		isRefused(t, x, []rune{one, 'a', one}, 0, 2)
	}
}

// Promise 17.1: of all pairs of joinings on either side, with none, one and many T, a non-joiner may stand between L or D and R or D alone, and a joiner between none.
func TestBetween(t *testing.T) {
	x := compiled(t, someBook())
	for _, ahead := range []rune{u, l, r, d, tr, c} {
		for _, behind := range []rune{u, l, r, d, tr, c} {
			parts := (ahead == l || ahead == d) && (behind == r || behind == d)
			for _, k := range []int{0, 1, 2, 100} {
				for _, many := range []int{0, 1, 3, 100} {
					for _, one := range []rune{n, j} {
						label := slices.Concat([]rune{ahead}, slices.Repeat([]rune{tr}, k), []rune{one}, slices.Repeat([]rune{tr}, many), []rune{behind})
						if parts && one == n {
							isRefused(t, x, label)
						} else {
							isRefused(t, x, label, k+1)
						}
						// What stands further out does not matter, unless a T lies there to be gone over.
						if ahead != tr && behind != tr {
							longer := slices.Concat([]rune{d, u}, label, []rune{u, d})
							if parts && one == n {
								isRefused(t, x, longer)
							} else {
								isRefused(t, x, longer, k+3)
							}
						}
					}
				}
			}
		}
	}
}

// Promise 17.1: at the label's ends nothing comes, nor behind T that goes on to there.
func TestAtTheEnds(t *testing.T) {
	x := compiled(t, someBook())
	for _, k := range []int{0, 1, 2, 100} {
		marks := slices.Repeat([]rune{tr}, k)
		for _, one := range []rune{n, j} {
			isRefused(t, x, slices.Concat(marks, []rune{one}), k)
			isRefused(t, x, slices.Concat([]rune{one}, marks), 0)
			isRefused(t, x, slices.Concat(marks, []rune{one}, marks), k)
			isRefused(t, x, slices.Concat(marks, []rune{one}, marks, []rune{d}), k)
			isRefused(t, x, slices.Concat([]rune{d}, marks, []rune{one}, marks), k+1)
			isRefused(t, x, slices.Concat([]rune{d}, marks, []rune{one}), k+1)
			isRefused(t, x, slices.Concat([]rune{one}, marks, []rune{d}), 0)
		}
		isRefused(t, x, slices.Concat([]rune{d}, marks, []rune{n}, marks, []rune{d}))
	}
}

// Promise 17.1: Check tells the first of several that may not stand there.
func TestCheckTellsTheFirst(t *testing.T) {
	x := compiled(t, someBook())
	isRefused(t, x, nil)
	isRefused(t, x, []rune{'a', 'b'})
	isRefused(t, x, []rune{n, j, n}, 0, 1, 2)
	isRefused(t, x, []rune{d, n, d, j, d, n, u, j}, 3, 5, 7)
	isRefused(t, x, []rune{d, n, d, n, tr, r, n, d}, 6)
	isRefused(t, x, []rune{vu, j, vu, n, 'a', n, vu, n}, 5)
	isRefused(t, x, []rune{d, n, n, d}, 1, 2)
	isRefused(t, x, []rune{d, n, j, d}, 1, 2)
	isRefused(t, x, []rune{d, tr, n, tr, d, n, r, n, r}, 7)
	// The same where the two have a joining or a class themselves.
	isRefused(t, compiled(t, withTheTwo(api.JoinT, 0, api.JoinT, 0)), []rune{d, n, j, n, d}, 2)
	isRefused(t, compiled(t, withTheTwo(api.JoinD, 0, api.JoinC, 0)), []rune{d, n, n, n, d, j, n}, 5, 6)
	isRefused(t, compiled(t, withTheTwo(0, 9, 0, 0)), []rune{j, j, n, n, j}, 0, 1, 2)
}

// Promise 17.1: the places of all of the two, wherever they may stand.
func TestAll(t *testing.T) {
	x := compiled(t, someBook())
	for _, c := range []struct {
		label []rune
		want  []int
	}{
		{nil, nil}, {[]rune{'a'}, nil}, {[]rune{n}, []int{0}}, {[]rune{j}, []int{0}}, {[]rune{n, n, j, j}, []int{0, 1, 2, 3}},
		{[]rune{'a', vu, j, d, n, d, 'a'}, []int{2, 4}}, {[]rune{n - 1, j + 1, n + 0x110000, j - 0x110000, -n, -j, n + 0x10000}, nil}, {[]rune{j, 'a', n}, []int{0, 2}},
	} {
		if got := All(x, c.label); !slices.Equal(got, c.want) {
			t.Errorf("All(%v): %v, not %v", c.label, got, c.want)
		}
	}
}

// Promise 17.1: of each class, that of a virama alone.
func TestVirama(t *testing.T) {
	var b api.Book
	for class := 1; class <= 254; class++ {
		b.Class = append(b.Class, value(5000+rune(class), class))
	}
	x := compiled(t, b)
	for class := range 256 {
		if got := Virama(x, 5000+rune(class)); got != (class == 9) {
			t.Errorf("Virama of the class %d: %v", class, got)
		}
	}
	for _, p := range []rune{-1, least, most, 0x110000, 5009 + 0x110000, 5009 - 0x110000, 0x10ffff, 0xd800, 9} {
		if Virama(x, p) {
			t.Errorf("Virama(%d)", p)
		}
	}
}

// Promise 17.1: labels with none, some and nothing but the two.
func TestStrip(t *testing.T) {
	for _, c := range []struct{ label, want []rune }{
		{nil, nil}, {[]rune{}, nil}, {[]rune{'a', 'b'}, []rune{'a', 'b'}}, {[]rune{n}, nil}, {[]rune{j}, nil}, {[]rune{n, j, j, n}, nil},
		{[]rune{n, 'a', j, 'b', 'a', n}, []rune{'a', 'b', 'a'}}, {[]rune{'a', n, n, j, 'b'}, []rune{'a', 'b'}}, {[]rune{vu, j, d, n, d}, []rune{vu, d, d}},
		{[]rune{-1, n, most, 0xd800, j, least, 0}, []rune{-1, most, 0xd800, least, 0}}, {[]rune{n - 1, j + 1, 0x0c, 0x0d, n + 0x110000, -j}, []rune{n - 1, j + 1, 0x0c, 0x0d, n + 0x110000, -j}},
	} {
		if got := Strip(c.label); !slices.Equal(got, c.want) {
			t.Errorf("Strip(%v): %v, not %v", c.label, got, c.want)
		}
	}
}

// Promise 17.2: the empty label, one code point of each joining, and T alone.
func TestShapesOfOne(t *testing.T) {
	x := compiled(t, someBook())
	haveShapes(t, x, nil)
	haveShapes(t, x, []rune{})
	for _, one := range []struct {
		p    rune
		want int
	}{{u, api.ShapeNone}, {l, api.ShapeAlone}, {r, api.ShapeAlone}, {d, api.ShapeAlone}, {tr, api.ShapeNone}, {c, api.ShapeAlone}, {'a', api.ShapeNone}, {n, api.ShapeNone}, {j, api.ShapeNone}, {-1, api.ShapeNone}, {most, api.ShapeNone}, {d + 0x110000, api.ShapeNone}, {0xd800, api.ShapeNone}, {0xd801, api.ShapeAlone}, {0xdbff, api.ShapeNone}, {0x10ffff, api.ShapeAlone}, {0, api.ShapeAlone}} {
		haveShapes(t, x, []rune{one.p}, one.want)
		haveShapes(t, x, []rune{tr, tr, one.p, tr}, 0, 0, one.want, 0)
	}
	haveShapes(t, x, slices.Repeat([]rune{tr}, 50), make([]int, 50)...)
}

// Promise 17.2: each pair, with none, one and many T between, by hand.
func TestShapesOfTwo(t *testing.T) {
	x := compiled(t, someBook())
	each := []rune{u, l, r, d, c}
	// Which of them joins the other, row by row: u, l, r, d, c ahead, and the same behind.
	joined := [][]bool{{false, false, false, false, false}, {false, false, true, true, true}, {false, false, false, false, false}, {false, false, true, true, true}, {false, false, true, true, true}}
	for i, one := range each {
		for k, other := range each {
			want := []int{api.ShapeAlone, api.ShapeAlone}
			if joined[i][k] {
				want = []int{api.ShapeFirst, api.ShapeLast}
			}
			if one == u {
				want[0] = api.ShapeNone
			}
			if other == u {
				want[1] = api.ShapeNone
			}
			for _, many := range []int{0, 1, 2, 100} {
				haveShapes(t, x, slices.Concat([]rune{one}, slices.Repeat([]rune{tr}, many), []rune{other}), slices.Concat(want[:1], make([]int, many), want[1:])...)
			}
		}
	}
}

// Promise 17.2: words of letters that join on one side, on both, and on none.
func TestShapesOfMore(t *testing.T) {
	const none, alone, first, middle, last = 0, 1, 2, 3, 4
	x := compiled(t, someBook())
	haveShapes(t, x, []rune{d, d, d}, first, middle, last)
	haveShapes(t, x, []rune{d, tr, d, tr, tr, d}, first, none, middle, none, none, last)
	haveShapes(t, x, []rune{tr, d, d, tr}, none, first, last, none)
	haveShapes(t, x, []rune{d, r, d, r}, first, last, first, last)
	haveShapes(t, x, []rune{l, d, l, d}, first, last, first, last)
	haveShapes(t, x, []rune{l, r, l, r}, first, last, first, last)
	haveShapes(t, x, []rune{r, l}, alone, alone)
	haveShapes(t, x, []rune{d, u, d}, alone, none, alone)
	haveShapes(t, x, []rune{d, n, d}, alone, none, alone)
	haveShapes(t, x, []rune{c, d, c}, first, middle, last)
	haveShapes(t, x, []rune{l, c, r}, first, middle, last)
	haveShapes(t, x, []rune{l, l, d, r, r}, alone, first, middle, last, alone)
	haveShapes(t, x, []rune{d, -1, d, most, d, d}, alone, none, alone, none, first, last)
	haveShapes(t, x, []rune{0xd801, 0xdbff, 0xd802, 0xdfff, 0xd800}, first, none, middle, last, none)
	// The two join as the book says that they do.
	y := compiled(t, withTheTwo(api.JoinT, 0, api.JoinC, 0))
	haveShapes(t, y, []rune{d, n, d}, first, none, last)
	haveShapes(t, y, []rune{j, d, j}, first, middle, last)
}

// Promises 17.1 and 17.2: all calls of every short label, by books of all kinds, against the model.
func TestOfAllShortLabels(t *testing.T) {
	for _, b := range someBooks() {
		x, m := compiled(t, b), model{b}
		for length := range 4 {
			lists(length, []rune{n, j, u, l, r, d, tr, c, vu, vt}, func(label []rune) { isAsModel(t, x, m, label) })
		}
		lists(5, []rune{n, d, tr}, func(label []rune) { isAsModel(t, x, m, label) })
	}
	b := someBook()
	x, m := compiled(t, b), model{b}
	for length := range 5 {
		lists(length, []rune{n, j, u, l, r, d, tr, c, vu}, func(label []rune) { isAsModel(t, x, m, label) })
	}
	for length := range 3 {
		lists(length, somePoints(), func(label []rune) { isAsModel(t, x, m, label) })
	}
}

// Promises 17.1 and 17.2: longer labels, and by the sample book.
func TestOfMany(t *testing.T) {
	from := rand.New(rand.NewSource(171))
	given := sample.Book()
	for _, c := range []struct {
		book api.Book
		of   []rune
	}{
		{someBook(), somePoints()}, {someBook(), []rune{n, d, d, tr, tr, l, r}}, {withTheTwo(api.JoinT, 0, api.JoinC, 0), []rune{n, n, n, j, d, d, tr}},
		{given, []rune{n, j, 'a', '-', 0xad, 0x300, 0x5b0, 0x627, 0x628, 0x62a, 0x64b, 0x915, 0x93c, 0x94d, 0xfe0f, 0xe0100, 0xd800}}, {given, []rune{n, 0x628, 0x627, 0x64b}},
	} {
		x, m := compiled(t, c.book), model{c.book}
		for range 2000 {
			isAsModel(t, x, m, randomLabel(from, 20, c.of))
		}
	}
	x, m := sample.Tables(), model{given}
	for range 2000 {
		isAsModel(t, x, m, randomLabel(from, 10, []rune{n, j, 0x915, 0x94d, 0x628, 0x627, 0x64b}))
	}
}

// Promises 17.1 and 17.2: by a book without rows, and by nil tables, nothing joins and nothing is a virama, so that neither of the two may stand anywhere.
func TestWithoutRows(t *testing.T) {
	for _, x := range []*book.Tables{nil, compiled(t, api.Book{}), new(book.Tables)} {
		for length := range 3 {
			lists(length, somePoints(), func(label []rune) {
				isRefused(t, x, label, All(x, label)...)
				haveShapes(t, x, label, make([]int, length)...)
				isAsModel(t, x, model{}, label)
			})
		}
		isRefused(t, x, []rune{0x628, n, 0x628}, 1)
		isRefused(t, x, []rune{0x94d, j}, 1)
	}
}

// Promise 17.3: a label without the two is never refused; and Check finds none just if Allowed is true of every place.
func TestWhatFollowsOfCheck(t *testing.T) {
	for _, b := range someBooks() {
		x := compiled(t, b)
		for length := range 4 {
			lists(length, []rune{n, j, u, l, r, d, tr, c, vu, -1}, func(label []rune) {
				isRefused(t, x, Strip(label))
				all := true
				for i := range label {
					all = all && Allowed(x, label, i)
				}
				if got := Check(x, label); (got == -1) != all {
					t.Errorf("Check(%v): %d, but Allowed is true of every place: %v", label, got, all)
				}
			})
		}
	}
}

// Promise 17.3: of two neighbours the one joins what is behind just if the other joins what is ahead.
func TestWhatFollowsOfShapes(t *testing.T) {
	b := someBook()
	x := compiled(t, b)
	for length := range 6 {
		lists(length, []rune{u, l, r, d, tr, c}, func(label []rune) {
			joinsBehind := false
			for i, shape := range Shapes(x, label) {
				if label[i] == tr {
					continue
				}
				if joinsAhead := shape == api.ShapeMiddle || shape == api.ShapeLast; joinsAhead != joinsBehind {
					t.Errorf("Shapes(%v): %v, at %d", label, Shapes(x, label), i)
				}
				joinsBehind = shape == api.ShapeFirst || shape == api.ShapeMiddle
			}
			if joinsBehind {
				t.Errorf("Shapes(%v): %v, at the end", label, Shapes(x, label))
			}
		})
	}
}

// Promises 17.1 and 17.2, rule R1: long labels end soon, though each of the two has a long run of T about it.
func TestLongLabels(t *testing.T) {
	const many = 300000
	x := compiled(t, withTheTwo(api.JoinT, 0, api.JoinT, 0))
	label := slices.Concat([]rune{d}, slices.Repeat([]rune{n}, many), []rune{d})
	began := time.Now()
	if got := Check(x, label); got != -1 {
		t.Errorf("Check: %d", got)
	}
	if got := Shapes(x, label); got[0] != api.ShapeFirst || got[many] != api.ShapeNone || got[many+1] != api.ShapeLast {
		t.Errorf("Shapes: %d, %d, %d", got[0], got[many], got[many+1])
	}
	label[many+1] = u
	if got := Check(x, label); got != 1 {
		t.Errorf("Check: %d", got)
	}
	label[many+1], label[many] = d, j
	if got := Check(x, label); got != many {
		t.Errorf("Check: %d", got)
	}
	if got := len(All(x, label)); got != many {
		t.Errorf("All: %d", got)
	}
	if got := Strip(label); !slices.Equal(got, []rune{d, d}) {
		t.Errorf("Strip: %d of them", len(got))
	}
	if !Allowed(x, label, many/2) {
		t.Error("Allowed")
	}
	if took := time.Since(began); took > 5*time.Second {
		t.Errorf("it took %v", took)
	}
}

// Promises 17.1 and 17.2: the chapter's examples.
func TestExamples(t *testing.T) {
	x := sample.Tables()
	for _, c := range []struct {
		label []rune
		want  int
	}{{[]rune{2325, 2381, 8205}, -1}, {[]rune{97, 8205}, 1}, {[]rune{1576, 8204, 1576}, -1}, {[]rune{1575, 8204, 1576}, 1}, {[]rune{8204}, 0}} {
		if got := Check(x, c.label); got != c.want {
			t.Errorf("Check(%v): %d, not %d", c.label, got, c.want)
		}
	}
	if !Allowed(x, []rune{97}, 0) || Allowed(x, []rune{97}, 1) {
		t.Error("Allowed of [97]")
	}
	haveShapes(t, x, []rune{1576, 1576, 1575}, api.ShapeFirst, api.ShapeMiddle, api.ShapeLast)
	haveShapes(t, x, []rune{1576, 1611, 1576}, api.ShapeFirst, api.ShapeNone, api.ShapeLast)
	if got := All(x, []rune{97, 8204, 8205}); !slices.Equal(got, []int{1, 2}) {
		t.Errorf("All: %v", got)
	}
	if [5]int{api.ShapeNone, api.ShapeAlone, api.ShapeFirst, api.ShapeMiddle, api.ShapeLast} != [5]int{0, 1, 2, 3, 4} {
		t.Error("the shapes' numbers")
	}
}
