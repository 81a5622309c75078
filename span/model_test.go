package span

import (
	"fmt"
	"math/rand"
	"regexp"
	"slices"
	"strings"
	"sync"

	"postern/api"
)

// world tells of each code point whether it is in.
type world [api.MaxPoint + 1]bool

// worldOf is the code points of spans.
func worldOf(l []api.Span) *world {
	w := new(world)
	for _, s := range l {
		for p := s.From; p <= s.To; p++ {
			w[p] = true
		}
	}
	return w
}

// worldBy is the code points of which a rule says yes.
func worldBy(rule func(p rune) bool) *world {
	w := new(world)
	for p := range w {
		w[p] = rule(rune(p))
	}
	return w
}

// list is the one list of a set.
func (w *world) list() []api.Span {
	var l []api.Span
	for p, in := range w {
		switch {
		case !in:
		case p > 0 && w[p-1]:
			l[len(l)-1].To = rune(p)
		default:
			l = append(l, api.Span{From: rune(p), To: rune(p)})
		}
	}
	return l
}

// points is all code points that are in, rising.
func (w *world) points() []rune {
	var l []rune
	for p, in := range w {
		if in {
			l = append(l, rune(p))
		}
	}
	return l
}

// of is the spans of pairs of numbers.
func of(pairs ...rune) []api.Span {
	var l []api.Span
	for i := 0; i < len(pairs); i += 2 {
		l = append(l, api.Span{From: pairs[i], To: pairs[i+1]})
	}
	return l
}

// row is n spans of so many code points, one each step, from first on.
func row(n int, first, step, points rune) []api.Span {
	l := make([]api.Span, n)
	for i := range l {
		from := first + rune(i)*step
		l[i] = api.Span{From: from, To: from + points - 1}
	}
	return l
}

// some is spans that may be, in any order, crowded at a few places so that they often overlap, touch or leave little between them.
func some(r *rand.Rand, n int) []api.Span {
	l := make([]api.Span, n)
	for i := range l {
		from := []rune{0, 0xfff0, 0x10ffd0}[r.Intn(3)] + rune(r.Intn(48))
		l[i] = api.Span{From: from, To: min(from+rune(r.Intn(6)), api.MaxPoint)}
		if r.Intn(20) == 0 {
			l[i].To = from + rune(r.Intn(api.MaxPoint-int(from)+1))
		}
	}
	return l
}

// noSets is lists that are no sets, each for one cause.
func noSets() map[string][]api.Span {
	return map[string][]api.Span{
		"from above to":        of(5, 4),
		"below 0":              of(-1, 4),
		"all below 0":          of(-5, -1),
		"beyond the last":      of(5, api.MaxPoint+1),
		"all beyond the last":  of(api.MaxPoint+1, api.MaxPoint+1),
		"the least rune":       of(-1<<31, -1<<31),
		"the greatest rune":    of(1<<31-1, 1<<31-1),
		"all runes":            of(-1<<31, 1<<31-1),
		"overlapping":          of(1, 5, 5, 9),
		"touching":             of(1, 5, 6, 9),
		"within":               of(1, 9, 3, 4),
		"twice":                of(1, 1, 1, 1),
		"falling":              of(8, 9, 1, 2),
		"wrong behind":         of(1, 2, 4, 5, 9, 8),
		"touching behind":      of(1, 2, 4, 5, 6, 6),
		"beyond behind":        of(1, 2, 4, 5, 7, api.MaxPoint+1),
		"around the runes":     of(0, 1<<31-1, 3, 4),
		"one too many":         row(api.MaxSpans+1, 0, 2, 1),
		"many too many":        row(2*api.MaxSpans, 0, 4, 3),
		"to below 0, from not": of(3, -1),
	}
}

// spanShape is a span of a text.
var spanShape = regexp.MustCompile(`^([0-9A-F]{4,6})(-([0-9A-F]{4,6}))?$`)

// numbers is all code points by how they are written, and for all their beginnings the greatest that begins so.
var numbers = sync.OnceValues(func() (map[string]rune, map[string]rune) {
	whole, greatest := make(map[string]rune), make(map[string]rune)
	for p := rune(0); p <= api.MaxPoint; p++ {
		s := fmt.Sprintf("%04X", p)
		whole[s] = p
		for i := range len(s) + 1 {
			greatest[s[:i]] = p
		}
	}
	return whole, greatest
})

// readSpans is the spans of a text that is whole, by splitting it.
func readSpans(s string) ([]api.Span, bool) {
	if s == "" {
		return nil, true
	}
	whole, _ := numbers()
	var l []api.Span
	for _, part := range strings.Split(s, ",") {
		m := spanShape.FindStringSubmatch(part)
		if m == nil {
			return nil, false
		}
		from, ok := whole[m[1]]
		to := from
		if ok && m[2] != "" {
			to, ok = whole[m[3]]
			ok = ok && to > from
		}
		if !ok || len(l) > 0 && from-l[len(l)-1].To < 2 {
			return nil, false
		}
		l = append(l, api.Span{From: from, To: to})
	}
	return l, true
}

// begins tells whether some text of a set begins so: what stands ahead of the last number is whole, and a number that is great enough begins as the last one does.
func begins(s string) bool {
	_, greatest := numbers()
	ahead, last := "", s
	if i := strings.LastIndexByte(s, ','); i >= 0 {
		ahead, last = s[:i], s[i+1:]
		if ahead == "" {
			return false
		}
	}
	spans, ok := readSpans(ahead)
	least := rune(0)
	if len(spans) > 0 {
		least = spans[len(spans)-1].To + 2
	}
	if from, to, two := strings.Cut(last, "-"); two {
		whole, _ := numbers()
		p, is := whole[from]
		ok = ok && is && p >= least
		least, last = p+1, to
	}
	most, is := greatest[last]
	return ok && is && most >= least
}

// readText is Parse by its words.
func readText(s string) ([]api.Span, int, api.Errno) {
	if l, ok := readSpans(s); ok {
		if len(l) > api.MaxSpans {
			return nil, 0, api.ErrSpans
		}
		return l, 0, api.OK
	}
	for i := range len(s) {
		if !begins(s[:i+1]) {
			return nil, i, api.ErrText
		}
	}
	return nil, len(s), api.ErrText
}

func alike(a, b []api.Span) bool { return slices.Equal(a, b) }
