package percent

import (
	"regexp"
	"slices"
	"strconv"
	"strings"

	"postern/api"
	"postern/octet"
)

// wantPart is a coded byte or a single byte of a text, as it stands there.
type wantPart struct {
	at   int
	text string
}

// codedPattern is the chapter's coded byte; the expression finds it from the front on, and never looks at a byte twice.
var codedPattern = regexp.MustCompile(`%[0-9A-Fa-f][0-9A-Fa-f]`)

func wantParts(s string) []wantPart {
	var l []wantPart
	at := 0
	plain := func(to int) {
		for ; at < to; at++ {
			l = append(l, wantPart{at, s[at : at+1]})
		}
	}
	for _, found := range codedPattern.FindAllStringIndex(s, -1) {
		plain(found[0])
		l = append(l, wantPart{at, s[found[0]:found[1]]})
		at = found[1]
	}
	plain(len(s))
	return l
}

func (p wantPart) coded() bool { return len(p.text) == 3 }

func (p wantPart) stray() bool { return p.text == "%" }

// says is the byte that a part says, which is itself where it is no coded one.
func (p wantPart) says() byte {
	if !p.coded() {
		return p.text[0]
	}
	n, err := strconv.ParseUint(p.text[1:], 16, 8)
	if err != nil {
		panic(err)
	}
	return byte(n)
}

func wantDecode(s string) string {
	var b []byte
	for _, p := range wantParts(s) {
		b = append(b, p.says())
	}
	return string(b)
}

func wantCoded(s string) int {
	n := 0
	for _, p := range wantParts(s) {
		if p.coded() {
			n++
		}
	}
	return n
}

func wantStrays(s string) []int {
	var l []int
	for _, p := range wantParts(s) {
		if p.stray() {
			l = append(l, p.at)
		}
	}
	return l
}

// wantHex is a coded byte with great letters.
func wantHex(b byte) string {
	s := strings.ToUpper(strconv.FormatUint(uint64(b), 16))
	if len(s) < 2 {
		s = "0" + s
	}
	return "%" + s
}

func inSet(x api.Bytes, b byte) bool { return x[b/64]&(1<<(b%64)) != 0 }

func wantEncode(s string, x api.Bytes) string {
	out := ""
	for i := range len(s) {
		if inSet(x, s[i]) {
			out += wantHex(s[i])
		} else {
			out += s[i : i+1]
		}
	}
	return out
}

// wantNormal goes by the chapter's list of cases, one by one.
func wantNormal(s string, x api.Bytes) string {
	out := ""
	for _, p := range wantParts(s) {
		b := p.says()
		switch {
		case p.coded() && (inSet(x, b) || b == '%'):
			out += wantHex(b)
		case p.coded():
			out += string([]byte{b})
		case p.stray():
			out += "%25"
		case inSet(x, b):
			out += wantHex(b)
		default:
			out += p.text
		}
	}
	return out
}

// wantForm goes by the bytes that forms leave as they are.
func wantForm(s string) string {
	const plain = "*-._0123456789ABCDEFGHIJKLMNOPQRSTUVWXYZabcdefghijklmnopqrstuvwxyz"
	out := ""
	for i := range len(s) {
		switch {
		case s[i] == ' ':
			out += "+"
		case strings.IndexByte(plain, s[i]) >= 0:
			out += s[i : i+1]
		default:
			out += wantHex(s[i])
		}
	}
	return out
}

func wantFormDecode(s string) string {
	b := []byte(s)
	for i := range b {
		if b[i] == '+' {
			b[i] = ' '
		}
	}
	return wantDecode(string(b))
}

// named is a set that there is.
func named(name int) api.Bytes {
	x, e := octet.Named(name)
	if e != api.OK {
		panic("no such set")
	}
	return x
}

// someSets are the named ones and some odd ones: of nothing, of all, of %, of digits, of letters, of what is no digit.
func someSets() []api.Bytes {
	l := []api.Bytes{{}, octet.Make(0, 255), octet.Make('%', '%'), octet.Make('0', '9'), octet.Make('A', 'F'), octet.Make('a', 'f', '%'),
		octet.Minus(octet.Make(0, 255), octet.Make('0', '9', '%', 'A', 'f')), octet.Make(128, 255, 0, ' ', '+')}
	for name := 1; name <= 10; name++ {
		l = append(l, named(name))
	}
	return l
}

// texts goes through all texts of some length over some bytes.
func texts(length int, bytes string, visit func(string)) {
	at := make([]int, length)
	text := make([]byte, length)
	for {
		for i, n := range at {
			text[i] = bytes[n]
		}
		visit(string(text))
		i := length - 1
		for i >= 0 && at[i] == len(bytes)-1 {
			at[i] = 0
			i--
		}
		if i < 0 {
			return
		}
		at[i]++
	}
}

// someTexts goes through texts of all kinds: all short ones over bytes about percent signs, and longer mixed ones.
func someTexts(visit func(string)) {
	for length := range 7 {
		texts(length, "%2aFg", visit)
	}
	for length := range 5 {
		texts(length, "%0459:@AFGaf`g/+ ", visit)
	}
	for _, s := range mixedTexts() {
		visit(s)
	}
}

// fewTexts goes through fewer of them, for what is asked of each set, or of each way to cut them.
func fewTexts(visit func(string)) {
	for length := range 6 {
		texts(length, "%25aG", visit)
	}
	for _, s := range mixedTexts() {
		visit(s)
	}
}

// mixedTexts are some longer texts.
func mixedTexts() []string {
	all := make([]byte, 256)
	for i := range all {
		all[i] = byte(i)
	}
	return []string{
		"", "example.com", "%41%4g%", "%2541", "a b%", "%61%2f%%zz", "a b&%", "a+%2B", "%25%32%35", "%%341", "%%%%%41%%%%", "%4%41", "%41%4", "%41%",
		"%e2%82%ac", "\xe2\x82\xac%", "%\xe2\x82\xac", "%4\xff", "%\x00\x00%00", "%ff%FF%fF%Ff", "% 1%1 %+1%-1%0x", "%4_1", "%u0041", "%25%25%25",
		"\x00\x1f \x7f\x80\xff", string(all), wantEncode(string(all), octet.Make(0, 255)), strings.Repeat("%4", 300), strings.Repeat("%", 300) + "41",
	}
}

// cuts hands over a text cut into pieces in every way; it should be short.
func cuts(s string, visit func([]string)) {
	if s == "" {
		visit(nil)
		return
	}
	for bits := range 1 << (len(s) - 1) {
		var l []string
		from := 0
		for i := 1; i < len(s); i++ {
			if bits>>(i-1)&1 == 1 {
				l = append(l, s[from:i])
				from = i
			}
		}
		visit(append(l, s[from:]))
	}
}

// singles is a text cut into its bytes.
func singles(s string) []string {
	var l []string
	for i := range len(s) {
		l = append(l, s[i:i+1])
	}
	return l
}

// pairs is fields, of names and values by turns.
func pairs(l ...string) []api.Field {
	var fields []api.Field
	for i := 0; i < len(l); i += 2 {
		fields = append(fields, api.Field{Name: l[i], Value: l[i+1]})
	}
	return fields
}

// withSpare is a copy of a list with spare room, which holds what no call may change.
func withSpare[T any](l []T, spare T) []T {
	long := append(slices.Clone(l), spare, spare, spare)
	return long[:len(l)]
}

// sparesKept is whether the list and its spare room are still what withSpare made.
func sparesKept[T comparable](l, made []T, spare T) bool {
	return slices.Equal(l, made) && slices.Equal(made[:len(made)+3][len(made):], []T{spare, spare, spare})
}

// spoil overwrites a list with all its spare room.
func spoil[T any](l []T, with T) {
	l = l[:cap(l)]
	for i := range l {
		l[i] = with
	}
}
