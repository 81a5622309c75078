package line

import (
	"slices"
	"testing"
	"unsafe"

	"postern/api"
)

// spoil overwrites lines with all their spare room.
func spoil(l []api.Line) {
	l = l[:cap(l)]
	for i := range l {
		fields := l[i].Fields[:cap(l[i].Fields)]
		for j := range fields {
			fields[j] = "spoiled"
		}
		l[i] = of(-7, "spoiled", "spoiled")
	}
}

// Rule R4: what comes out is the caller's own, with its spare room; no two lists of an answer share any.
func TestOwn(t *testing.T) {
	const s = "a;b # n\nc\n;d;\n"
	want := wantLines(s, 0)
	lines := Lines(s)
	r := NewReader()
	for name, call := range map[string]func() []api.Line{
		"Lines":  func() []api.Line { return slices.Collect(lines) },
		"Read":   func() []api.Line { l, _, _ := Read(s); return l },
		"Reader": func() []api.Line { *r = Reader{}; return append(r.Feed("a;b # n\nc\n;d"), r.Feed(";\n")...) },
		"End": func() []api.Line {
			*r = Reader{}
			l := r.Feed("a;b # n\nc\n;d;")
			return append(l, r.End()...)
		},
	} {
		first, second := call(), call()
		checkLines(t, name, first, want)
		spoil(first)
		checkLines(t, name+", when an answer was overwritten", second, want)
		checkLines(t, name+", asked again", call(), want)
		for i := range second {
			long := second[i].Fields[:cap(second[i].Fields)]
			for j := range long {
				long[j] = "spoiled"
			}
			checkLines(t, name+", when the line ahead was overwritten", second[i+1:], want[i+1:])
		}
	}
	a, _, _ := Sequence("0041 0042")
	b, _, _ := Sequence("0041 0042")
	a[0], a[1] = 0, 0
	if !slices.Equal(b, []rune{65, 66}) {
		t.Errorf("Sequence: answers share memory: %v", b)
	}
}

// Rule R4: a line that is changed on the way is told anew the next time, and the lines behind it stay.
func TestLinesChangedOnTheWay(t *testing.T) {
	lines := Lines("a;b\nc;d\n")
	for range 2 {
		var got []api.Line
		for l := range lines {
			got = append(got, of(l.Number, l.Note, slices.Clone(l.Fields)...))
			spoil([]api.Line{l})
		}
		checkLines(t, "Lines", got, []api.Line{of(1, "", "a", "b"), of(2, "", "c", "d")})
	}
}

// Rule R4: what a Reader told may be changed while it goes on.
func TestWhatAReaderToldMayBeChanged(t *testing.T) {
	r := NewReader()
	for i := range 3 {
		told := r.Feed("a;b\nc;")
		checkLines(t, "Feed", told, []api.Line{of(2*i+1, "", "a", "b")})
		spoil(told)
		end := r.End()
		checkLines(t, "End", end, []api.Line{of(2*i+2, "", "c", "")})
		spoil(end)
	}
}

// Rule R4: what is handed in stays, with its spare room.
func TestWhatIsHandedInStays(t *testing.T) {
	room := []string{"a", "b", "c", "", " x", "y\n"}
	was := slices.Clone(room)
	for n := range len(room) + 1 {
		l := api.Line{Number: 3, Fields: room[:n], Note: "n"}
		Print(l)
		Fields(l, 1, 2)
		if !slices.Equal(room, was) || len(l.Fields) != n || l.Number != 3 || l.Note != "n" {
			t.Errorf("a line of %d fields was changed: %q", n, room)
		}
	}
	points := []rune{65, 66, 67, -1, api.MaxPoint + 1}
	for n := range len(points) + 1 {
		Tell(points[:n])
		if !slices.Equal(points, []rune{65, 66, 67, -1, api.MaxPoint + 1}) {
			t.Errorf("a list of %d code points was changed: %v", n, points)
		}
	}
}

// Rule R4: texts that come out stand in memory of their own, not in that of the text that was read.
func TestTextsStandApart(t *testing.T) {
	bytes := []byte("first;second # note\nthird\n")
	s := unsafe.String(&bytes[0], len(bytes))
	r := NewReader()
	kept := slices.Collect(Lines(s))
	read, _, _ := Read(s)
	fed := r.Feed(s)
	r.Feed(s[:5])
	want := []api.Line{of(1, "note", "first", "second"), of(2, "", "third")}
	clear(bytes)
	checkLines(t, "Lines", kept, want)
	checkLines(t, "Read", read, want)
	checkLines(t, "Feed", fed, want)
	checkLines(t, "End", r.End(), []api.Line{of(3, "", "first")})
}

// Rule R5: the same is answered again, whatever was asked between.
func TestAgain(t *testing.T) {
	for range 3 {
		for _, s := range someTexts() {
			checkLines(t, "Lines", slices.Collect(Lines(s)), wantLines(s, 0))
		}
	}
}
