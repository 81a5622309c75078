package stage

import (
	"iter"

	"postern/api"
)

// everything is the span of all code points.
func everything() api.Span { return api.Span{From: 0, To: api.MaxPoint} }

// stretches goes over the longest stretches of a span of which one thing is said, with what is said.
func stretches[V comparable](within api.Span, says func(p rune) V) iter.Seq2[api.Span, V] {
	return func(yield func(api.Span, V) bool) {
		from, now := within.From, says(within.From)
		for p := within.From + 1; p <= within.To; p++ {
			next := says(p)
			if next == now {
				continue
			}
			if !yield(api.Span{From: from, To: p - 1}, now) {
				return
			}
			from, now = p, next
		}
		yield(api.Span{From: from, To: within.To}, now)
	}
}

// pointsOf is the set of all code points of which a rule says yes.
func pointsOf(rule func(p rune) bool) []api.Span {
	var out []api.Span
	for s, in := range stretches(everything(), rule) {
		if in {
			out = append(out, s)
		}
	}
	return out
}
