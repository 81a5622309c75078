package book

import (
	"postern/api"
	"postern/line"
)

// reader puts together the book that lines say.
type reader struct {
	book    api.Book
	scripts map[string]int // the number of each name that came
}

// Read is the book that lines say.
func Read(s string) (api.Book, int, api.Errno) {
	r := &reader{scripts: make(map[string]int)}
	many, wrong, fault := 0, 0, api.OK
	for l := range line.Lines(s) {
		many++
		if many > api.MaxLines {
			return api.Book{}, 0, api.ErrLines
		}
		if fault != api.OK {
			// That there are too many lines goes ahead of what is wrong with one, so they are counted on.
			continue
		}
		if fault = r.take(l); fault != api.OK {
			wrong = l.Number
		}
	}
	if fault != api.OK {
		return api.Book{}, wrong, fault
	}
	return r.book, 0, api.OK
}

// take puts what a line says into the book.
func (r *reader) take(l api.Line) api.Errno {
	k, known := kindOf(l.Fields[0])
	if !known {
		return api.ErrKind
	}
	if e := line.Fields(l, k.fields, k.fields); e != api.OK {
		return e
	}
	s, e := line.Range(l.Fields[1])
	if e != api.OK {
		return e
	}
	if k.fields == shortLine {
		r.put(k.list, s, k.status, nil)
		return api.OK
	}
	n, is, e := r.behind(k.list, l.Fields[2])
	if e != api.OK {
		return e
	}
	r.put(k.list, s, n, is)
	return api.OK
}

// behind is what the field behind a span says: a number, or code points.
func (r *reader) behind(list int, field string) (n int, is []rune, e api.Errno) {
	switch list {
	case api.ListClass:
		n, e = line.Whole(field)
	case api.ListBidi:
		n, e = placeOf(field, directions())
	case api.ListJoin:
		n, e = placeOf(field, joinings())
	case api.ListScript:
		n, e = r.script(field)
	default:
		is, _, e = line.Sequence(field)
	}
	return n, is, e
}

// script is the number of a script, which is a new one if the name is.
func (r *reader) script(name string) (int, api.Errno) {
	if !isName(name) {
		return 0, api.ErrCalled
	}
	n, known := r.scripts[name]
	if !known {
		r.book.Names = append(r.book.Names, name)
		n = len(r.book.Names)
		r.scripts[name] = n
	}
	return n, api.OK
}

// put puts a row behind the others of its list.
func (r *reader) put(list int, s api.Span, n int, is []rune) {
	b := &r.book
	value, chars := api.Value{From: s.From, To: s.To, N: n}, api.Chars{From: s.From, To: s.To, Is: is}
	switch list {
	case api.ListStatus:
		b.Status = append(b.Status, value)
	case api.ListMaps:
		b.Maps = append(b.Maps, chars)
	case api.ListClass:
		b.Class = append(b.Class, value)
	case api.ListDecomp:
		b.Decomp = append(b.Decomp, chars)
	case api.ListExcluded:
		b.Excluded = append(b.Excluded, s)
	case api.ListBidi:
		b.Bidi = append(b.Bidi, value)
	case api.ListJoin:
		b.Join = append(b.Join, value)
	case api.ListMarks:
		b.Marks = append(b.Marks, s)
	case api.ListScript:
		b.Script = append(b.Script, value)
	case api.ListLike:
		b.Like = append(b.Like, chars)
	}
}
