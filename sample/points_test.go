package sample

import (
	"slices"
	"strings"
	"testing"

	"postern/api"
	"postern/span"
)

// statusSets is the sets of the statuses from 0 on, as they are.
var statusSets = [...]string{
	"0080-009F,00A1-00A9,00AB-00AC,00AE-00B1,00B3-00B4,00B6,00B8-00BC,00BE-00BF,00C1-00C4,00C6,00C8,00CA-00D5,00D7-00DB,00DD-00DE,00F7,0100-012F,0132-0140,0143-02FF,0333-0385,0387-0390,0392-03A2,03A4-03AB,03AD-03B0,03CA-040F,0411-041D,041F-042F,0450-0455,0457-05AF,05BA-05CF,05EB-0626,063B-0640,0653-065F,066A-06EF,06FA-0903,093A-093B,093D-094C,094E-0957,0959-10FF,1113-1160,1176-11A7,11C3-1E61,1E64-1E67,1E6A-1E9D,1E9F-200B,200E-2043,2045-2063,2065-2125,2127-212A,212C-245F,2461-3001,3003-3040,3097-30A0,30FB-4DFF,A000-ABFF,D7A4-FB00,FB02-FE0E,FE10-FF0C,FF0F,FF1A-FF20,FF22-FF37,FF39-FF3A,FF3C-FF40,FF42-FF57,FF59-FF60,FF62-1D3FF,1D401-1D7CD,1D7CF-1F5FF,1F650-E00FF,E01F0-10FFFF",
	"0000-0040,005B-007F,00B7,00E0-00F6,00F8-00FF,0131,0142,0300-0332,03AC,03B1-03C1,03C3-03C9,0430-044F,0456,05B0-05B9,05D0-05EA,0627-063A,0641-0652,0660-0669,06F0-06F9,0904-0939,093C,094D,1100-1112,1161-1175,11A8-11C2,1E63,1E69,2044,3041-3096,30A1-30FA,4E00-9FFF,AC00-D7A3,1F600-1F64F",
	"00AD,2064,FE0F,E0100-E01EF",
	"00DF,03C2,200C-200D",
	"0041-005A,00A0,00AA,00B2,00B5,00BD,00C0,00C5,00C7,00C9,00D6,00DC,0130,0141,0386,0391,03A3,0410,041E,0958,1E62,1E68,1E9E,2126,212B,2460,3002,FB01,FF0D-FF0E,FF10-FF19,FF21,FF38,FF3B,FF41,FF58,FF61,1D400,1D7CE",
}

// scriptSets is the sets of the scripts, in the order of their names.
var scriptSets = [...]string{
	"0041-005A,0061-007A,00AA,00C0-00D6,00D8-00F6,00F8-0142,1E62-1E9E,212B,FB01,FF21-FF58",
	"0386-03C9,2126",
	"0410-0456",
	"05B0-05EA",
	"0627-063A,0641-064A,06F0-06F9",
	"0904-094D",
	"1100-11C2,AC00-D7A3",
	"3041-3096",
	"30A1-30FA",
	"4E00-9FFF",
}

// isSet holds a set against its text; only of a set is there one.
func isSet(t *testing.T, what string, x []api.Span, want string) {
	t.Helper()
	if got, e := span.Text(x); got != want || e != api.OK || !span.Is(x) {
		t.Errorf("%s: %q, %d, not %q", what, got, e, want)
	}
}

// Promise 11.2: Points of each status is its set, as often as it is asked.
func TestPoints(t *testing.T) {
	for range 2 {
		for status, want := range statusSets {
			isSet(t, "Points", Points(status), want)
		}
	}
}

// Promise 11.2: of what is no status there is nothing.
func TestPointsOfNoStatus(t *testing.T) {
	for _, status := range []int{-1, 5, 6, -4, 1 << 32, 1<<32 + 1, 4 - 1<<32, -1 << 63, 1<<63 - 1} {
		if x := Points(status); len(x) != 0 {
			t.Errorf("Points(%d): %v", status, x)
		}
	}
}

// Promises 11.2 and 11.4: each code point is in the set of its status by the book's lines, and in no other; the sets are all code points together.
func TestPointsTogether(t *testing.T) {
	w := worldOf(t)
	status := make([]int8, points)
	for p := range status {
		status[p] = -1
	}
	for n := range len(statusSets) {
		for p := range span.All(Points(n)) {
			if status[p] != -1 {
				t.Fatalf("%x has the statuses %d and %d", p, status[p], n)
			}
			status[p] = int8(n)
		}
	}
	for p, n := range status {
		if want := w[rune(p)].Status; int(n) != want {
			t.Fatalf("%x has the status %d, not %d", p, n, want)
		}
	}
}

// Promise 11.4: the same by sets alone.
func TestPointsApart(t *testing.T) {
	var all [][]api.Span
	sum := 0
	for n := range len(statusSets) {
		x := Points(n)
		for i, y := range all {
			if both, e := span.Cross(x, y); len(both) != 0 || e != api.OK {
				t.Errorf("the statuses %d and %d share %v, %d", n, i, both, e)
			}
		}
		all, sum = append(all, x), sum+span.Count(x)
	}
	x, _, e := span.Union(all...)
	if sum != points || e != api.OK || !slices.Equal(x, []api.Span{{From: 0, To: api.MaxPoint}}) {
		t.Errorf("%d code points, together %v, %d", sum, x, e)
	}
}

// Promise 11.2: Letters of every name of the book is its set, of each code point as the lines say.
func TestLetters(t *testing.T) {
	w, names := worldOf(t), strings.Fields(scripts)
	if len(names) != len(scriptSets) {
		t.Fatalf("%d names", len(names))
	}
	for i, name := range names {
		for range 2 {
			isSet(t, name, Letters(name), scriptSets[i])
		}
		many := 0
		for _, said := range w {
			if said.Script == i+1 {
				many++
			}
		}
		x := Letters(name)
		for p := range span.All(x) {
			if w[p].Script != i+1 {
				t.Errorf("%x is not of %s", p, name)
			}
		}
		if span.Count(x) != many {
			t.Errorf("%s has %d letters, not %d", name, span.Count(x), many)
		}
	}
}

// Promise 11.2: of what is none of the book's names there is nothing, as of a name in other letters' sizes.
func TestLettersOfNoName(t *testing.T) {
	wrong := []string{"", " ", "Klingon", "Common", "Inherited", "Unknown", "Lat", "atin", "Latinn", " Latin", "Latin ", "Latin\x00", "Latin Greek", "Latin;", "L", "1", "0", "\xff", strings.Repeat("Latin", 1000)}
	for _, name := range strings.Fields(scripts) {
		wrong = append(wrong, strings.ToLower(name), strings.ToUpper(name), name[:len(name)-1], name+name)
	}
	for _, name := range wrong {
		if x := Letters(name); len(x) != 0 {
			t.Errorf("Letters(%q): %v", name, x)
		}
	}
}
