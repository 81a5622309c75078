package stage

import (
	"math/rand"
	"slices"
	"strconv"
	"testing"

	"postern/api"
)

const last = api.MaxPoint

// shapes is rows that may be, by the edges that they have.
func shapes() map[string][]api.Value {
	return map[string][]api.Value{
		"none":                            nil,
		"none, not nil":                   {},
		"one":                             rows(65, 90, 1),
		"touching, of one number":         rows(0, 5, 1, 6, 9, 1),
		"touching, of two numbers":        rows(0, 5, 1, 6, 9, 2),
		"touching, with a nought between": rows(0, 5, 1, 6, 6, 0, 7, 9, 1),
		"apart by one":                    rows(0, 5, 1, 7, 9, 1),
		"to a border":                     rows(100, 127, 3),
		"from a border":                   rows(128, 130, 3),
		"a block":                         rows(128, 255, 3),
		"all but a block's ends":          rows(129, 254, 3),
		"over a border":                   rows(127, 128, 3),
		"one behind a border":             rows(256, 256, 3),
		"one ahead of a border":           rows(255, 255, 3),
		"over a block":                    rows(127, 256, 3),
		"several blocks":                  rows(128, 1023, 3),
		"several blocks and more":         rows(100, 1030, 3),
		"touching at a border":            rows(100, 127, 1, 128, 140, 1),
		"touching at a border, two":       rows(100, 127, 1, 128, 140, 2),
		"several in a block":              rows(1, 1, 1, 3, 3, 2, 5, 5, 3, 127, 127, 4, 128, 128, 5),
		"first":                           rows(0, 0, 1),
		"last":                            rows(last, last, 1),
		"first and last":                  rows(0, 0, 1, last, last, 2),
		"last two":                        rows(last-1, last-1, 7, last, last, 8),
		"all":                             rows(0, last, 9),
		"all but the ends":                rows(1, last-1, 9),
		"all in two":                      rows(0, 0xffff, 9, 0x10000, last, 9),
		"all noughts":                     rows(0, last, 0),
		"surrogates":                      rows(0xd800, 0xdfff, 1),
		"of 0":                            rows(5, 9, 0, 11, 12, 0),
		"of MaxValue":                     rows(5, 9, api.MaxValue, 300, 400, api.MaxValue-1),
		"a high and a low byte":           rows(1, 1, 0x0102, 2, 2, 0x0201, 3, 3, 0xff00, 4, 4, 0x00ff),
		"a block again far behind":        rows(130, 140, 5, 1000, 1001, 6, 1<<20+2, 1<<20+12, 5),
		"two blocks again":                rows(0, 127, 5, 256, 383, 6, 512, 639, 6, 1024, 1151, 5, last-127, last, 6),
		"thousands of blocks again":       ladder(8704, 128, 4000),
		"no block of noughts at first":    rows(0, 300, 5),
		"many numbers":                    ladder(65535, 17, 65535),
		"MaxRows":                         ladder(api.MaxRows, 17, 3),
		"MaxRows, of blocks unlike":       ladder(api.MaxRows, 2, 65521),
		"MaxRows, that touch":             ladder(api.MaxRows, 1, 2),
	}
}

// Promises 8.1, 8.3, 8.4, 8.6: tables of rows by the edges that they have.
func TestShapes(t *testing.T) {
	t.Parallel()
	for name, l := range shapes() {
		follows(t, name, built(t, l), worldOf(l))
	}
}

// Promises 8.1, 8.3, 8.4, 8.6: tables of many rows.
func TestBuildOfMany(t *testing.T) {
	t.Parallel()
	r := rand.New(rand.NewSource(81))
	for i := range 25 {
		l := some(r, 2*i)
		follows(t, strconv.Itoa(i), built(t, l), worldOf(l))
	}
}

// faults is rows that may not be, with the place and the error.
func faults() map[string]struct {
	rows []api.Value
	at   int
	e    api.Errno
} {
	type fault = struct {
		rows []api.Value
		at   int
		e    api.Errno
	}
	many := ladder(api.MaxRows+1, 16, 5)
	wrongMany := slices.Clone(many)
	wrongMany[0].N, wrongMany[3].From = -1, -9
	lastWrong, lastValue := ladder(api.MaxRows, 16, 5), ladder(api.MaxRows, 16, 5)
	lastWrong[api.MaxRows-1].To--
	lastValue[api.MaxRows-1].N = 65536
	return map[string]fault{
		"overlapping":              {rows(0, 5, 1, 5, 9, 1), 1, api.ErrRows},
		"overlapping, two numbers": {rows(0, 5, 1, 3, 9, 2), 1, api.ErrRows},
		"within":                   {rows(0, 9, 1, 3, 4, 2), 1, api.ErrRows},
		"twice":                    {rows(5, 5, 1, 5, 5, 1), 1, api.ErrRows},
		"another order":            {rows(10, 12, 1, 3, 4, 2), 1, api.ErrRows},
		"another order behind":     {rows(0, 1, 1, 10, 12, 1, 3, 4, 2), 2, api.ErrRows},
		"from above to":            {rows(5, 4, 1), 0, api.ErrRows},
		"from above to behind":     {rows(1, 2, 1, 5, 4, 1), 1, api.ErrRows},
		"from above to, to ahead":  {rows(5, 9, 1, 11, 3, 1), 1, api.ErrRows},
		"from below 0":             {rows(-1, 4, 1), 0, api.ErrRows},
		"all below 0":              {rows(-9, -1, 1), 0, api.ErrRows},
		"one below 0":              {rows(-1, -1, 1), 0, api.ErrRows},
		"to below 0":               {rows(0, -1, 1), 0, api.ErrRows},
		"to beyond":                {rows(5, last+1, 1), 0, api.ErrRows},
		"all beyond":               {rows(last+1, last+1, 1), 0, api.ErrRows},
		"beyond, behind the last":  {rows(last, last, 1, last+1, last+1, 1), 1, api.ErrRows},
		"the least rune":           {rows(-1<<31, -1<<31, 1), 0, api.ErrRows},
		"the greatest rune":        {rows(1<<31-1, 1<<31-1, 1), 0, api.ErrRows},
		"all runes":                {rows(-1<<31, 1<<31-1, 1), 0, api.ErrRows},
		"to the greatest rune":     {rows(0, 1<<31-1, 1, 5, 6, 1), 0, api.ErrRows},
		"one beyond MaxValue":      {rows(0, 5, 65536), 0, api.ErrValue},
		"one below 0, N":           {rows(0, 5, -1), 0, api.ErrValue},
		"great N":                  {rows(0, 5, 1<<32+1), 0, api.ErrValue},
		"greatest N":               {rows(0, 5, 1<<63-1), 0, api.ErrValue},
		"least N":                  {rows(0, 5, -1<<63), 0, api.ErrValue},
		"N behind":                 {rows(0, 5, 1, 6, 7, 65535, 8, 9, 65536), 2, api.ErrValue},
		"span and N":               {rows(5, 4, 65536), 0, api.ErrRows},
		"beyond and N":             {rows(5, last+1, -1), 0, api.ErrRows},
		"place and N":              {rows(0, 5, 1, 5, 6, 65536), 1, api.ErrRows},
		"N, and a span behind":     {rows(0, 5, 65536, 5, 4, 1), 0, api.ErrValue},
		"N, and a place behind":    {rows(0, 5, 65536, 5, 6, 1), 0, api.ErrValue},
		"a span, and N behind":     {rows(0, 5, 1, 9, 8, 1, 10, 11, 65536), 1, api.ErrRows},
		"two spans":                {rows(0, 5, 1, 9, 8, 1, 7, 6, 1), 1, api.ErrRows},
		"two N":                    {rows(0, 5, 1, 6, 7, -1, 8, 9, -1), 1, api.ErrValue},
		"the last of MaxRows":      {lastWrong, api.MaxRows - 1, api.ErrRows},
		"N of the last of MaxRows": {lastValue, api.MaxRows - 1, api.ErrValue},
		"one too many":             {many, api.MaxRows, api.ErrRows},
		"one too many, and others": {wrongMany, api.MaxRows, api.ErrRows},
		"many too many, all alike": {make([]api.Value, 3*api.MaxRows), api.MaxRows, api.ErrRows},
	}
}

// Promises 8.1, 8.2: rows that may not be, to build and to lay over tables, which stay.
func TestFaults(t *testing.T) {
	ground := rows(65, 90, 1, 127, 300, 2)
	x := built(t, ground)
	for name, c := range faults() {
		if b, at, e := Build(c.rows); b != nil || at != c.at || e != c.e {
			t.Errorf("Build, %s: %v, %d, %d", name, b != nil, at, e)
		}
		if b, at, e := x.Over(c.rows); b != nil || at != c.at || e != c.e {
			t.Errorf("Over, %s: %v, %d, %d", name, b != nil, at, e)
		}
		if b, at, e := (*Table)(nil).Over(c.rows); b != nil || at != c.at || e != c.e {
			t.Errorf("Over of nil, %s: %v, %d, %d", name, b != nil, at, e)
		}
	}
	follows(t, "behind errors", x, worldOf(ground))
}

// Promise 8.2: rows of all shapes laid over tables, which stay.
func TestOver(t *testing.T) {
	t.Parallel()
	grounds := [][]api.Value{nil, rows(0, last, 9), rows(3, 8, 1, 100, 260, 2, 0xd000, 0xe000, 4, last, last, 5)}
	for _, ground := range grounds {
		x, w := built(t, ground), worldOf(ground)
		for name, l := range shapes() {
			o, at, e := x.Over(l)
			if at != 0 || e != api.OK {
				t.Fatalf("Over, %s: %d, %d", name, at, e)
			}
			agrees(t, name, o, w.over(l))
		}
		follows(t, "the ground", x, w)
	}
}

// Promises 8.2, 8.6: of tables laid over each other what lies last counts, and there may be more rows in all than MaxRows.
func TestOverOfMany(t *testing.T) {
	t.Parallel()
	r := rand.New(rand.NewSource(82))
	x, w := built(t, nil), new(world)
	for i := range 20 {
		l := some(r, 40)
		o, _, e := x.Over(l)
		if e != api.OK {
			t.Fatal(e)
		}
		agrees(t, "what was laid over", x, w)
		x, w = o, w.over(l)
		if i%5 == 0 {
			follows(t, strconv.Itoa(i), x, w)
		}
	}
	for i := range 4 {
		l := ladder(api.MaxRows, 4, 7)
		for j := range l {
			l[j].From, l[j].To = rune(4*(j+i*api.MaxRows)), rune(4*(j+i*api.MaxRows)+2)
		}
		o, _, e := x.Over(l)
		if e != api.OK {
			t.Fatal(e)
		}
		x, w = o, w.over(l)
	}
	if len(x.Rows()) <= api.MaxRows || len(x.Set(3)) == 0 {
		t.Fatalf("%d rows", len(x.Rows()))
	}
	follows(t, "more than MaxRows", x, w)
}

// Promise 8.3: a set may have more spans than MaxSpans.
func TestGreatSet(t *testing.T) {
	x := built(t, nil)
	for i := range 3 {
		l := make([]api.Value, api.MaxRows)
		for j := range l {
			p := rune(2 * (j + i*api.MaxRows))
			l[j] = row(p, p, 1)
		}
		o, _, e := x.Over(l)
		if e != api.OK {
			t.Fatal(e)
		}
		x = o
	}
	l := x.Set(1)
	if len(l) != 3*api.MaxRows || len(x.Set(0)) != 3*api.MaxRows || x.Count(1) != 3*api.MaxRows {
		t.Fatalf("%d, %d spans, %d code points", len(l), len(x.Set(0)), x.Count(1))
	}
	for i, s := range l {
		if s != (api.Span{From: rune(2 * i), To: rune(2 * i)}) {
			t.Fatalf("the span at %d: %v", i, s)
		}
	}
	if d := Differ(x, nil); !slices.Equal(d, l) {
		t.Errorf("Differ: %d spans", len(d))
	}
}

// Promise 8.3: tables that say the same, however they came to be, and such as don't, by one code point or by one bit.
func TestSame(t *testing.T) {
	x := built(t, rows(0, 5, 1, 6, 9, 1, 200, 500, 256))
	over, _, _ := built(t, rows(3, 400, 8)).Over(rows(0, 9, 1, 10, 199, 0, 200, 500, 256))
	for name, y := range map[string]*Table{"itself": x, "by other rows": built(t, rows(0, 9, 1, 50, 60, 0, 200, 300, 256, 301, 500, 256)), "by Over": over} {
		if !Same(x, y) || !Same(y, x) || x.Pack() != y.Pack() {
			t.Error("not the same:", name)
		}
	}
	for name, l := range map[string][]api.Value{
		"nothing":         nil,
		"one more":        rows(0, 10, 1, 200, 500, 256),
		"one less":        rows(0, 9, 1, 200, 499, 256),
		"another number":  rows(0, 9, 1, 200, 500, 257),
		"another byte":    rows(0, 9, 1, 200, 500, 1),
		"one at the end":  rows(0, 9, 1, 200, 500, 256, last, last, 1),
		"another place":   rows(0, 9, 1, 328, 628, 256),
		"in turn":         rows(0, 9, 256, 200, 500, 1),
		"another first":   rows(1, 9, 1, 200, 500, 256),
		"again at places": rows(0, 9, 1, 200, 500, 256, 1024, 1033, 1),
	} {
		if y := built(t, l); Same(x, y) || Same(y, x) || x.Pack() == y.Pack() {
			t.Error("the same:", name)
		}
	}
}

// The chapter's examples 1 and 2.
func TestExamples(t *testing.T) {
	x := built(t, rows(65, 90, 1))
	for p, want := range map[rune]int{65: 1, 90: 1, 64: 0, 91: 0, -1: 0} {
		if n := x.Look(p); n != want {
			t.Errorf("Look(%d): %d", p, n)
		}
	}
	if x.Blocks() != 2 || x.Count(1) != 26 || x.Count(0) != 1114086 {
		t.Error(x.Blocks(), x.Count(1), x.Count(0))
	}
	if !slices.Equal(x.Rows(), rows(65, 90, 1)) || !slices.Equal(x.Set(1), spans(65, 90)) {
		t.Error(x.Rows(), x.Set(1))
	}
	if l := built(t, rows(0, 5, 1, 6, 9, 1)).Rows(); !slices.Equal(l, rows(0, 9, 1)) {
		t.Error(l)
	}
	if _, at, e := Build(rows(0, 5, 1, 5, 9, 1)); at != 1 || e != api.ErrRows {
		t.Error(at, e)
	}
	if _, at, e := Build(rows(0, 5, 65536)); at != 0 || e != api.ErrValue {
		t.Error(at, e)
	}
}
