package sample

import (
	"slices"

	"postern/api"
	"postern/span"
)

// Points is the code points of a status.
func Points(status int) []api.Span {
	rows := statuses(Book())
	if status == api.StatusDisallowed {
		// No row says it: it is what is left.
		x, _ := span.Other(setOf(rows, func(int) bool { return true }))
		return x
	}
	return setOf(rows, func(n int) bool { return n == status })
}

// statuses is rows that say the status of each code point that is not disallowed, in any order.
func statuses(b api.Book) []api.Value {
	out := slices.Clone(b.Status)
	for _, r := range b.Maps {
		out = append(out, api.Value{From: r.From, To: r.To, N: api.StatusMapped})
	}
	return out
}

// Letters is the code points of a script.
func Letters(script string) []api.Span {
	b := Book()
	place := slices.Index(b.Names, script)
	if place < 0 {
		return nil
	}
	return setOf(b.Script, func(n int) bool { return n == place+1 })
}

// setOf is the set of the code points of rows whose number is asked for. It is made by span, as rows may lie side by side where a set has one span.
func setOf(rows []api.Value, asked func(n int) bool) []api.Span {
	var l []api.Span
	for _, r := range rows {
		if asked(r.N) {
			l = append(l, api.Span{From: r.From, To: r.To})
		}
	}
	x, _, _ := span.Make(l...)
	return x
}
