package scalar

import (
	"slices"

	"postern/api"
)

// A row of the table of well-formed sequences: what each of its bytes may be.
type row [][2]byte

// wellFormed is the chapter's table, word by word.
func wellFormed() []row {
	more := [2]byte{128, 191}
	return []row{
		{{0, 127}},
		{{194, 223}, more},
		{{224, 224}, {160, 191}, more},
		{{225, 236}, more, more},
		{{237, 237}, {128, 159}, more},
		{{238, 239}, more, more},
		{{240, 240}, {144, 191}, more, more},
		{{241, 243}, more, more, more},
		{{244, 244}, {128, 143}, more, more},
	}
}

// fits is how many bytes at the front of a text stand as the row says.
func fits(w row, s string) int {
	n := 0
	for n < len(w) && n < len(s) && w[n][0] <= s[n] && s[n] <= w[n][1] {
		n++
	}
	return n
}

// value is what a well-formed sequence says.
func value(s string) rune {
	if len(s) == 1 {
		return rune(s[0])
	}
	r := rune(s[0]) & (1<<(7-len(s)) - 1)
	for i := 1; i < len(s); i++ {
		r = r*64 + rune(s[i]) - 128
	}
	return r
}

// wantPiece is the first piece of a text that is not empty, by the table.
func wantPiece(s string) api.Piece {
	longest := 1
	for _, w := range wellFormed() {
		n := fits(w, s)
		if n == len(w) {
			return api.Piece{Size: n, Rune: value(s[:n])}
		}
		longest = max(longest, n)
	}
	return api.Piece{Size: longest, Rune: 65533, Wrong: true}
}

func wantPieces(s string) []api.Piece {
	var l []api.Piece
	for at := 0; at < len(s); {
		p := wantPiece(s[at:])
		p.At = at
		l = append(l, p)
		at += p.Size
	}
	return l
}

// wantHeld is how many bytes at the end of a text are a beginning that may be gone on with.
func wantHeld(s string) int {
	l := wantPieces(s)
	if len(l) == 0 || !l[len(l)-1].Wrong {
		return 0
	}
	last := l[len(l)-1]
	for _, w := range wellFormed() {
		if fits(w, s[last.At:]) == last.Size {
			return last.Size
		}
	}
	return 0
}

func said(l []api.Piece) []rune {
	var told []rune
	for _, p := range l {
		told = append(told, p.Rune)
	}
	return told
}

// wantUnits is UTF-16 by the chapter's words.
func wantUnits(l []rune) []uint16 {
	var units []uint16
	for _, r := range l {
		if r < 65536 {
			units = append(units, uint16(r))
			continue
		}
		units = append(units, uint16(55296+(r-65536)/1024), uint16(56320+(r-65536)%1024))
	}
	return units
}

// edgeBytes are the least and the greatest byte of each range of the table, and those one beyond.
func edgeBytes() []byte {
	has := make([]bool, 256)
	for _, w := range wellFormed() {
		for _, span := range w {
			for _, n := range []int{int(span[0]) - 1, int(span[0]), int(span[1]), int(span[1]) + 1} {
				if 0 <= n && n <= 255 {
					has[n] = true
				}
			}
		}
	}
	var l []byte
	for n, in := range has {
		if in {
			l = append(l, byte(n))
		}
	}
	return append(l, 255)
}

// texts goes through all texts of some length over some bytes.
func texts(length int, bytes []byte, visit func(string)) {
	at := make([]int, length)
	text := make([]byte, length)
	for {
		for i, n := range at {
			text[i] = bytes[n]
		}
		visit(string(text))
		i := length - 1
		for i >= 0 && at[i] == len(bytes)-1 {
			at[i] = 0
			i--
		}
		if i < 0 {
			return
		}
		at[i]++
	}
}

// someTexts goes through texts of all kinds: each of one and of two bytes, and longer ones over bytes at the edges.
func someTexts(visit func(string)) {
	all := make([]byte, 256)
	for i := range all {
		all[i] = byte(i)
	}
	visit("")
	texts(1, all, visit)
	texts(2, all, visit)
	texts(3, edgeBytes(), visit)
	texts(4, []byte{10, 13, 'A', 127, 128, 143, 144, 159, 160, 191, 192, 194, 224, 226, 237, 240, 243, 244, 245}, visit)
	texts(5, []byte{10, 13, 'A', 128, 0xac, 0xe2, 0xf1}, visit)
	for _, s := range mixedTexts() {
		visit(s)
	}
}

// mixedTexts are some longer texts, whole and wrong.
func mixedTexts() []string {
	return []string{
		"", "example.com", "a\xe2\x82\xac", "a\r\n\xc3\xa4b", "a\xf0\x9f\x98\x80b\xf0\x9f\x98\x80",
		"\xe2\x82A", "\xf0\x80\x80", "\xed\xa0\x80", "\xff", "\xf0\x9f\x98", "\xf0\x9f\x98\xf0\x9f\x98\x80", "x\xe2\x82\r\n\xe2",
		"\x00\x7f\xc2\x80\xdf\xbf\xe0\xa0\x80\xef\xbf\xbf\xf0\x90\x80\x80\xf4\x8f\xbf\xbf",
		"\xef\xbf\xbd is U+FFFD itself", "\xe2\x82\xe2\x82\xe2\x82\xac\x82\xac",
		"\r", "\n", "\r\n", "\r\r\n\n", "\n\r", "a\rb\r\n", "\r\n\xf0\x9f\x98\x80\n\xf0\x9f\x98\xf4\x90\r\rz",
	}
}

// cuts hands over a text cut into pieces in every way; it should be short.
func cuts(s string, visit func([]string)) {
	if s == "" {
		visit(nil)
		return
	}
	for bits := range 1 << (len(s) - 1) {
		var l []string
		from := 0
		for i := 1; i < len(s); i++ {
			if bits>>(i-1)&1 == 1 {
				l = append(l, s[from:i])
				from = i
			}
		}
		visit(append(l, s[from:]))
	}
}

// withSpare is a copy of a list with spare room, which holds what no call may change.
func withSpare[T any](l []T, spare T) []T {
	long := append(slices.Clone(l), spare, spare, spare)
	return long[:len(l)]
}

// sparesKept is whether the list and its spare room are still what withSpare made.
func sparesKept[T comparable](l, made []T, spare T) bool {
	return slices.Equal(l, made) && slices.Equal(made[:len(made)+3][len(made):], []T{spare, spare, spare})
}

// spoil overwrites a list with all its spare room.
func spoil[T any](l []T, with T) {
	l = l[:cap(l)]
	for i := range l {
		l[i] = with
	}
}
