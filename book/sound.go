package book

import (
	"slices"

	"postern/api"
)

const (
	ruleASCII  = 1
	ruleMaps   = 2
	ruleParts  = 3
	rulePairs  = 4
	ruleHangul = 5

	// nowhere stands for the code point at which a rule is broken, where it is not.
	nowhere = -1

	asciiEnd = 128
	stop     = '.'
	toSmall  = 'a' - 'A'
)

// Sound is the first rule that a book breaks, and the least code point of which it does.
func Sound(b api.Book) (int, rune, api.Errno) {
	if _, e := Check(b); e != api.OK {
		return 0, 0, e
	}
	for rule := ruleASCII; rule <= ruleHangul; rule++ {
		if p := leastBroken(&b, rule); p != nowhere {
			return rule, p, api.ErrSound
		}
	}
	return 0, 0, api.OK
}

// leastBroken is the least code point of which a rule does not hold.
func leastBroken(b *api.Book, rule int) rune {
	switch rule {
	case ruleASCII:
		return leastWrongASCII(b)
	case ruleMaps:
		return leastWrongMap(b)
	case ruleParts:
		return leastWrongParts(b)
	case rulePairs:
		return leastWrongPair(b)
	default:
		return leastWrongHangul(b)
	}
}

func leastWrongASCII(b *api.Book) rune {
	paired := wronglyPaired(b.Decomp)
	for p := rune(0); p < asciiEnd; p++ {
		if !hasStatusOfASCII(b, p) || !isPlain(b, p) || paired[p] {
			return p
		}
	}
	return nowhere
}

func hasStatusOfASCII(b *api.Book, p rune) bool {
	status := statusOf(b, p)
	switch {
	case 'a' <= p && p <= 'z' || '0' <= p && p <= '9' || p == '-' || p == stop:
		return status == api.StatusValid
	case 'A' <= p && p <= 'Z':
		return slices.Equal(charsAt(b.Maps, p), []rune{p + toSmall})
	default:
		return status == api.StatusValid || status == api.StatusDisallowed
	}
}

// isPlain tells whether a code point neither combines nor joins nor makes a name run from right to left.
func isPlain(b *api.Book, p rune) bool {
	said := saidOf(b, p)
	if said.Mark || said.Class != 0 || len(said.Parts) > 0 || said.Join != api.JoinU {
		return false
	}
	return said.Bidi != api.BidiR && said.Bidi != api.BidiAL && said.Bidi != api.BidiAN
}

// wronglyPaired tells of each ASCII code point whether it stands in two parts where it may not.
func wronglyPaired(rows []api.Chars) [asciiEnd]bool {
	var paired [asciiEnd]bool
	for _, r := range rows {
		if len(r.Is) != 2 {
			continue
		}
		if r.Is[1] < asciiEnd {
			paired[r.Is[1]] = true
		}
		if r.Is[0] == stop {
			paired[stop] = true
		}
	}
	return paired
}

func leastWrongMap(b *api.Book) rune {
	for _, r := range b.Maps {
		for _, p := range r.Is {
			if !isKept(b, p) {
				return r.From
			}
		}
	}
	return nowhere
}

func leastWrongParts(b *api.Book) rune {
	all := newFulls(b.Decomp)
	for _, r := range b.Decomp {
		if isKept(b, r.From) && !comesBack(b, r, all) {
			return r.From
		}
	}
	return nowhere
}

// comesBack tells whether what is taken apart by a row is kept, in order, and composes again.
func comesBack(b *api.Book, r api.Chars, all *fulls) bool {
	if !composes(b, r) || !areKept(b, r.Is) {
		return false
	}
	first, second := r.Is[0], r.Is[1]
	if len(charsAt(b.Decomp, second)) > 0 {
		return false
	}
	class := valueAt(b.Class, second)
	return class == 0 || class >= valueAt(b.Class, all.of(first).last)
}

func leastWrongPair(b *api.Book) rune {
	for _, r := range b.Decomp {
		if composes(b, r) && areKept(b, r.Is) && !isKept(b, r.From) {
			return r.From
		}
	}
	return nowhere
}

func areKept(b *api.Book, l []rune) bool {
	for _, p := range l {
		if !isKept(b, p) {
			return false
		}
	}
	return true
}

func leastWrongHangul(b *api.Book) rune {
	least, someKept := rune(nowhere), false
	for _, s := range hangul {
		for p := s.From; p <= s.To; p++ {
			switch {
			case isKept(b, p):
				someKept = true
			case least == nowhere:
				least = p
			}
		}
	}
	if !someKept {
		return nowhere
	}
	return least
}
