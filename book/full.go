package book

import "postern/api"

// full is what is asked of a full decomposition: how many code points it has, one more than MaxChars standing for all that is too many, and which one is the last.
type full struct {
	size int
	last rune
}

// fulls is the full decompositions by rows of Decomp, each reckoned once: many rows may lead to one long chain.
type fulls struct {
	rows  []api.Chars
	known []full // of size 0: not yet
}

func newFulls(rows []api.Chars) *fulls {
	return &fulls{rows: rows, known: make([]full, len(rows))}
}

// of is the full decomposition of a code point.
func (f *fulls) of(p rune) full {
	if i := find(f.rows, p, charsSpan); i >= 0 {
		return f.row(i)
	}
	return full{size: 1, last: p}
}

// row is the full decomposition of the code point of a row.
func (f *fulls) row(i int) full {
	if f.known[i].size > 0 {
		return f.known[i]
	}
	// Who asks for it while it is being made is led back to it, and has no end.
	f.known[i].size = api.MaxChars + 1
	var made full
	for _, p := range f.rows[i].Is {
		part := f.of(p)
		made = full{size: min(made.size+part.size, api.MaxChars+1), last: part.last}
	}
	f.known[i] = made
	return made
}
