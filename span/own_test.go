package span

import (
	"slices"
	"testing"

	"postern/api"
)

// spare is a list with spare room behind its end, and all of that room.
func spare(l []api.Span) (list, room []api.Span) {
	room = append(slices.Clone(l), of(77, 77, 78, 79, 5, 4, 80, 80)...)
	return room[:len(l)], room
}

// spoil overwrites a list and its spare room.
func spoil(l []api.Span) {
	l = l[:cap(l)]
	for i := range l {
		l[i] = api.Span{From: -7, To: -7}
	}
}

// Rule R4: what is handed in stays, with its spare room; what comes out is the caller's own, with its spare room.
func TestOwn(t *testing.T) {
	calls := map[string]func(a, b []api.Span) []api.Span{
		"Make":  func(a, _ []api.Span) []api.Span { x, _, _ := Make(a...); return x },
		"Union": func(a, b []api.Span) []api.Span { x, _, _ := Union(a, b); return x },
		"Union of one": func(a, _ []api.Span) []api.Span {
			x, _, _ := Union(a)
			return x
		},
		"Union with the empty one": func(a, _ []api.Span) []api.Span { x, _, _ := Union(nil, a, nil); return x },
		"Cross":                    func(a, b []api.Span) []api.Span { x, _ := Cross(a, b); return x },
		"Cross with itself":        func(a, _ []api.Span) []api.Span { x, _ := Cross(a, a); return x },
		"Minus":                    func(a, b []api.Span) []api.Span { x, _ := Minus(a, b); return x },
		"Minus of nothing":         func(a, _ []api.Span) []api.Span { x, _ := Minus(a, nil); return x },
		"Other":                    func(a, _ []api.Span) []api.Span { x, _ := Other(a); return x },
		"Parse":                    func(_, _ []api.Span) []api.Span { x, _, _ := Parse("0001-0009,000B"); return x },
		"the asking ones": func(a, b []api.Span) []api.Span {
			Is(a)
			Has(a, 9)
			Count(a)
			At(a, 3)
			Place(a, 9)
			Next(a, 20)
			Within(a, b)
			Text(a)
			for range All(a) {
			}
			return nil
		},
	}
	for name, call := range calls {
		a, roomA := spare(of(1, 9, 11, 12, 20, 30))
		b, roomB := spare(of(5, 5, 12, 22, api.MaxPoint, api.MaxPoint))
		wasA, wasB := slices.Clone(roomA), slices.Clone(roomB)
		first := call(a, b)
		want := slices.Clone(first)
		second := call(a, b)
		if !alike(roomA, wasA) || !alike(roomB, wasB) {
			t.Errorf("%s changed what was handed in", name)
		}
		spoil(first)
		if !alike(second, want) || !alike(roomA, wasA) || !alike(roomB, wasB) {
			t.Errorf("%s: answers share memory with others or with what was handed in", name)
		}
		spoil(roomA)
		spoil(roomB)
		if !alike(second, want) {
			t.Errorf("%s: its answer changes with what was handed in", name)
		}
	}
}

// Rule R4: lists in any order stay as they are.
func TestMakeLeavesOrder(t *testing.T) {
	l, room := spare(of(5, 9, 1, 2, 3, 4))
	was := slices.Clone(room)
	x, _, _ := Make(l...)
	if !alike(x, of(1, 9)) || !alike(room, was) {
		t.Errorf("%v, of %v", x, room)
	}
}

// Rule R4: a list of sets stays, and so do the sets.
func TestUnionLeavesSets(t *testing.T) {
	sets := [][]api.Span{of(5, 6), of(1, 2), of(3, 4), of(9, 9)}
	want := [][]api.Span{of(5, 6), of(1, 2), of(3, 4), of(9, 9)}
	Union(sets[:3]...)
	Union(sets...)
	for i, x := range sets {
		if !alike(x, want[i]) {
			t.Errorf("%v", sets)
		}
	}
}

// Rules R4 and R5: what All goes over is what was handed in, whatever becomes of the list.
func TestAllKeepsNothing(t *testing.T) {
	x := of(1, 2, 5, 5)
	all := All(x)
	spoil(x)
	if l := slices.Collect(all); !slices.Equal(l, []rune{1, 2, 5}) {
		t.Errorf("%v, of a list that was changed behind", l)
	}
	x = of(1, 2, 5, 5)
	var l []rune
	for p := range All(x) {
		spoil(x)
		l = append(l, p)
	}
	if !slices.Equal(l, []rune{1, 2, 5}) {
		t.Errorf("%v, of a list that was changed on the way", l)
	}
	y := of(5, 4)
	none := All(y)
	y[0] = api.Span{From: 1, To: 2}
	for range none {
		t.Error("a list that was no set goes over something")
	}
}
