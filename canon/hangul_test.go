package canon

import "testing"

func isSyllable(t *testing.T, p, l, v, third rune, ok bool) {
	t.Helper()
	if a, b, c, is := Syllable(p); a != l || b != v || c != third || is != ok {
		t.Errorf("Syllable(%d): %d, %d, %d, %v", p, a, b, c, is)
	}
}

// Promise 12.2: Syllable of the first and last ones, of those at the turns, and of what stands beside them.
func TestSyllable(t *testing.T) {
	isSyllable(t, 44032, 4352, 4449, 0, true)
	isSyllable(t, 44033, 4352, 4449, 4520, true)
	isSyllable(t, 44059, 4352, 4449, 4546, true)
	isSyllable(t, 44060, 4352, 4450, 0, true)
	isSyllable(t, 44619, 4352, 4469, 4546, true)
	isSyllable(t, 44620, 4353, 4449, 0, true)
	isSyllable(t, 0xd55c, 0x1112, 0x1161, 0x11ab, true)
	isSyllable(t, 55176, 4370, 4469, 0, true)
	isSyllable(t, 55203, 4370, 4469, 4546, true)
	for _, p := range []rune{44031, 55204, 0, -1, 65, 4352, 4449, 4520, -44032, 44032 + 0x10000, 0xd7ff, 0xd800, 0x10ffff, 0x110000, least, most} {
		isSyllable(t, p, 0, 0, 0, false)
	}
}

// Promises 12.2 and 12.5: Syllable of all runes about code points: just 11172 are syllables, and Hangul of their jamo is them.
func TestSyllableOfAll(t *testing.T) {
	jamo, many := allJamo(), 0
	for p := rune(-1000); p < 0x110000+1000; p++ {
		l, v, third, ok := Syllable(p)
		want := jamo[p]
		if ok != (want != nil) || !ok && (l != 0 || v != 0 || third != 0) {
			t.Fatalf("Syllable(%d): %d, %d, %d, %v", p, l, v, third, ok)
		}
		if !ok {
			continue
		}
		many++
		if want = append(want, 0); l != want[0] || v != want[1] || third != want[2] {
			t.Fatalf("Syllable(%d): %d, %d, %d, not %v", p, l, v, third, want)
		}
		if s, ok := Hangul(l, v, third); s != p || !ok {
			t.Fatalf("Hangul(%d, %d, %d): %d, %v, not %d", l, v, third, s, ok, p)
		}
	}
	if many != 11172 {
		t.Errorf("%d syllables", many)
	}
}

// Promise 12.2: Hangul of every three jamo, and of those beside their ranges, far from them, and in another's place.
func TestHangul(t *testing.T) {
	want := make(map[[3]rune]rune)
	for s, l := range allJamo() {
		l = append(l, 0)
		want[[3]rune{l[0], l[1], l[2]}] = s
	}
	about := func(from, to rune) []rune {
		l := []rune{least, -from, -1, 0, 1, 65, 4352, 4449, 4519, 4520, 44032, 44033, 0x110000, most}
		for p := from - 3; p <= to+3; p++ {
			l = append(l, p)
		}
		return l
	}
	many := make(map[rune]int)
	for _, l := range about(4352, 4370) {
		for _, v := range about(4449, 4469) {
			for _, third := range about(4520, 4546) {
				s, is := want[[3]rune{l, v, third}]
				got, ok := Hangul(l, v, third)
				if got != s || ok != is {
					t.Fatalf("Hangul(%d, %d, %d): %d, %v, not %d, %v", l, v, third, got, ok, s, is)
				}
				if ok {
					many[got]++
				}
			}
		}
	}
	if len(many) != 11172 {
		t.Errorf("%d syllables", len(many))
	}
}

// Promise 12.2: of two jamo t is 0, and nothing else stands for that.
func TestHangulOfTwo(t *testing.T) {
	if s, ok := Hangul(4370, 4469, 0); s != 55176 || !ok {
		t.Errorf("t 0: %d, %v", s, ok)
	}
	for _, third := range []rune{4519, 4518, 4547, -1, 1, 27, 4352, 4449, least, most} {
		if s, ok := Hangul(4370, 4469, third); s != 0 || ok {
			t.Errorf("t %d: %d, %v", third, s, ok)
		}
	}
	for _, c := range [][2]rune{{0, 0}, {0, 4449}, {4352, 0}, {4449, 4352}, {4351, 4449}, {4371, 4449}, {4352, 4448}, {4352, 4470}, {44032, 4449}, {44032, 4520}} {
		if s, ok := Hangul(c[0], c[1], 0); s != 0 || ok {
			t.Errorf("of %v: %d, %v", c, s, ok)
		}
	}
}
