package stage

import (
	"math/rand"
	"slices"
	"strings"
	"testing"

	"postern/api"
)

// packed is a text of any numbers: how many blocks it says, what it says of places that are not the first, and blocks of one number each.
func packed(many int, places map[int]int, blocks ...int) string {
	var s strings.Builder
	s.WriteString(two(many))
	for i := range 8704 {
		s.WriteString(two(places[i]))
	}
	for _, n := range blocks {
		s.WriteString(strings.Repeat(two(n), 128))
	}
	return s.String()
}

// Promise 8.4: texts of tables, by hand.
func TestUnpack(t *testing.T) {
	t.Parallel()
	for name, c := range map[string]struct {
		s    string
		rows []api.Value
	}{
		"noughts":      {packed(1, nil, 0), nil},
		"one number":   {packed(1, nil, 258), rows(0, last, 258)},
		"two blocks":   {packed(2, map[int]int{5: 1}, 0, 7), rows(640, 767, 7)},
		"the last one": {packed(2, map[int]int{8703: 1}, 65535, 0), rows(0, last-128, 65535)},
		"three blocks": {packed(3, map[int]int{5: 1, 6: 2, 7: 1, 8000: 2}, 0, 7, 9), rows(640, 767, 7, 768, 895, 9, 896, 1023, 7, 8000*128, 8000*128+127, 9)},
	} {
		x, e := Unpack(c.s)
		if e != api.OK {
			t.Fatalf("%s: %d", name, e)
		}
		follows(t, name, x, worldOf(c.rows))
		if x.Pack() != c.s || !Same(x, built(t, c.rows)) {
			t.Errorf("%s: another table", name)
		}
	}
}

// Promise 8.4: texts that no table has.
func TestUnpackWrong(t *testing.T) {
	good := packed(2, map[int]int{5: 1}, 0, 7)
	if _, e := Unpack(good); e != api.OK {
		t.Fatal(e)
	}
	for name, s := range map[string]string{
		"nothing":                             "",
		"a byte":                              "\x00",
		"a number alone":                      "\x00\x01",
		"no blocks, nothing else":             "\x00\x00",
		"a byte more":                         good + "\x00",
		"two bytes more":                      good + "\x00\x00",
		"a byte less":                         good[:len(good)-1],
		"a block more":                        good + strings.Repeat("\x00\x09", 128),
		"a block less":                        good[:len(good)-256],
		"the head alone":                      good[:17410],
		"the head less a byte":                good[:17409],
		"no blocks":                           packed(0, nil),
		"no blocks, but one":                  packed(0, nil, 0),
		"no blocks are said":                  packed(0, map[int]int{5: 1}, 0, 7),
		"one is said, two there":              packed(1, map[int]int{5: 1}, 0, 7),
		"two are said, one there":             packed(2, map[int]int{5: 1}, 0),
		"an unused block at the end":          packed(2, nil, 0, 7),
		"an unused block behind":              packed(3, map[int]int{5: 1}, 0, 7, 9),
		"an unused block between":             packed(3, map[int]int{5: 2}, 0, 9, 7),
		"an unused block at first":            "\x00\x02" + strings.Repeat("\x00\x01", 8704) + strings.Repeat("\x00\x09", 128) + strings.Repeat("\x00\x00", 128),
		"a double block":                      packed(2, map[int]int{5: 1}, 7, 7),
		"a double block behind":               packed(3, map[int]int{5: 1, 9: 2}, 0, 7, 0),
		"a double block that is unused":       packed(2, nil, 0, 0),
		"another order":                       packed(3, map[int]int{5: 2, 9: 1}, 0, 9, 7),
		"another order at first":              packed(2, map[int]int{0: 1}, 0, 7),
		"a block that is not there":           packed(2, map[int]int{5: 1, 9: 2}, 0, 7),
		"a block that is not there, the last": packed(2, map[int]int{5: 1, 8703: 2}, 0, 7),
		"a block far beyond":                  packed(1, map[int]int{5: 65535}, 0),
		"too many blocks":                     two(8705) + strings.Repeat("\x00\x00", 8704+128*8705),
		"most blocks":                         two(65535) + strings.Repeat("\x00\x00", 8704+128*65535),
		"the lower byte first":                packed(256, map[int]int{5: 256}, 0, 7),
	} {
		if x, e := Unpack(s); x != nil || e != api.ErrPacked {
			t.Errorf("%s: %v, %d", name, x != nil, e)
		}
	}
}

// Promise 8.4: a text that is changed at one byte is that of another table, or of none; that of none just where the model has no such text.
func TestUnpackChanged(t *testing.T) {
	t.Parallel()
	r := rand.New(rand.NewSource(84))
	x := built(t, rows(3, 8, 1, 100, 260, 2, 640, 767, 7, 768, 895, 9, 8000*128, 8000*128+127, 9))
	s := x.Pack()
	places := []int{0, 1, 2, 3, 4, 5, 17408, 17409, 17410, 17411, 17410 + 255, 17410 + 256, len(s) - 2, len(s) - 1}
	for range 60 {
		places = append(places, r.Intn(len(s)))
	}
	for _, at := range places {
		for _, b := range []byte{s[at] ^ 1, s[at] + 1, byte(r.Intn(256))} {
			changed := s[:at] + string([]byte{b}) + s[at+1:]
			want, is := said(changed)
			got, e := Unpack(changed)
			if (e == api.OK) != is || (got != nil) != is || !is && e != api.ErrPacked {
				t.Fatalf("byte %d at %d: %v, %d", b, at, got != nil, e)
			}
			if is {
				agrees(t, "a text that was changed", got, want)
			}
		}
	}
}

// said is the world that a text says, if it is that world's.
func said(s string) (*world, bool) {
	number := func(i int) int { return int(s[2*i])*256 + int(s[2*i+1]) }
	if len(s) != 17410+256*number(0) {
		return nil, false
	}
	for i := range 8704 {
		if number(1+i) >= number(0) {
			return nil, false
		}
	}
	w := by(func(p rune) int { return number(8705 + 128*number(1+int(p)/128) + int(p)%128) })
	text, _ := w.text()
	return w, text == s
}

// Promises 8.4, 8.6: as many unlike blocks as there can be; their numbers have two bytes that count.
func TestEveryBlockUnlike(t *testing.T) {
	l := make([]api.Value, 8704)
	for i := range l {
		l[i] = row(rune(128*i+i%128), rune(128*i+i%128), 1+i)
	}
	x := built(t, l)
	if x.Blocks() != 8704 || len(x.Pack()) != 17410+256*8704 {
		t.Fatal(x.Blocks(), len(x.Pack()))
	}
	follows(t, "every block unlike", x, worldOf(l))
	last := slices.Clone(l)
	last[8703].N--
	if Same(x, built(t, last)) {
		t.Error("the last block has no part")
	}
}

// The chapter's example 3.
func TestPackExample(t *testing.T) {
	x := built(t, nil)
	s := "\x00\x01" + strings.Repeat("\x00", 17408) + strings.Repeat("\x00", 256)
	if x.Blocks() != 1 || x.Pack() != s {
		t.Error(x.Blocks(), len(x.Pack()))
	}
	if y, e := Unpack(s); e != api.OK || !Same(x, y) {
		t.Error(e)
	}
	if y, e := Unpack(s + "x"); y != nil || e != api.ErrPacked {
		t.Error(y != nil, e)
	}
}
