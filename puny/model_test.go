package puny

import (
	"math/rand"
	"slices"
	"strings"
	"testing"

	"postern/api"
)

const (
	least = -1 << 31
	most  = 1<<31 - 1

	alphabet = "abcdefghijklmnopqrstuvwxyz0123456789"
)

// model says what the chapter's words say, step by step, with a walk through the list wherever the words walk.
type model struct{ api.Boot }

func punycode() model {
	return model{api.Boot{Base: 36, Least: 1, Most: 26, Skew: 38, Damp: 700, Bias: 72, First: 128, Between: '-'}}
}

func (m model) digit(c byte) int {
	return strings.IndexByte(alphabet[:m.Base], strings.ToLower(string(rune(c)))[0])
}

func (m model) t(k, bias int) int {
	switch t := k - bias; {
	case t < m.Least:
		return m.Least
	case t > m.Most:
		return m.Most
	default:
		return t
	}
}

func (m model) bias(delta, points int, first bool) int {
	by := 2
	if first {
		by = m.Damp
	}
	delta = delta / by
	delta = delta + delta/points
	var behind func(delta, k int) int
	behind = func(delta, k int) int {
		if delta > (m.Base-m.Least)*m.Most/2 {
			return behind(delta/(m.Base-m.Least), k+m.Base)
		}
		return k + (m.Base-m.Least+1)*delta/(delta+m.Skew)
	}
	return behind(delta, 0)
}

// number is a delta as digits; more than 100 of them are cut off, as they can't be read anyhow.
func (m model) number(q, bias int) string {
	s := ""
	for k := m.Base; len(s) < 100; k += m.Base {
		t := m.t(k, bias)
		if q < t {
			return s + alphabet[q:q+1]
		}
		d := t + (q-t)%(m.Base-t)
		s += alphabet[d : d+1]
		q = (q - t) / (m.Base - t)
	}
	return s
}

// made is the encoding of any numbers from 0 on, whatever they are; false: a delta is too great.
func (m model) made(l []rune) (string, bool) {
	var out strings.Builder
	h := 0
	for _, c := range l {
		if c < 128 && int(c) < m.First {
			out.WriteByte(byte(c))
			h++
		}
	}
	basic := h
	if basic > 0 {
		out.WriteByte(m.Between)
	}
	n, delta, bias, ok := m.First, 0, m.Bias, true
	grow := func(by int) {
		delta += by
		ok = ok && delta <= most
	}
	for h < len(l) {
		next := most
		for _, c := range l {
			if int(c) >= n {
				next = min(next, int(c))
			}
		}
		grow((next - n) * (h + 1))
		n = next
		for _, c := range l {
			if int(c) < n {
				grow(1)
			}
			if int(c) == n {
				out.WriteString(m.number(delta, bias))
				bias = m.bias(delta, h+1, h == basic)
				delta = 0
				h++
			}
		}
		if h < len(l) {
			grow(1)
			n++
		}
	}
	return out.String(), ok
}

func isSurrogate(n int) bool { return n >= 0xd800 && n <= 0xdfff }

func (m model) encode(l []rune) (string, int, api.Errno) {
	for i, c := range l {
		if c < 0 || c > 0x10ffff || isSurrogate(int(c)) {
			return "", i, api.ErrScalar
		}
	}
	for i, c := range l {
		if c >= 128 && int(c) < m.First {
			return "", i, api.ErrBasic
		}
	}
	s, ok := m.made(l)
	if !ok {
		return "", 0, api.ErrPuny
	}
	if _, _, e := m.decode(s); e != api.OK {
		return "", 0, api.ErrPuny
	}
	return s, 0, api.OK
}

func (m model) decode(s string) ([]rune, int, api.Errno) {
	var l []rune
	at := 0
	if last := strings.LastIndex(s, string(rune(m.Between))); last > 0 {
		for i := range last {
			if s[i] >= 128 || int(s[i]) >= m.First {
				return nil, i, api.ErrBasic
			}
			l = append(l, rune(s[i]))
		}
		at = last + 1
	}
	n, i, bias := m.First, 0, m.Bias
	for at < len(s) {
		old, w := i, 1
		for k := m.Base; ; k += m.Base {
			if at == len(s) {
				return nil, at, api.ErrDigits
			}
			d := m.digit(s[at])
			if d < 0 {
				return nil, at, api.ErrDigits
			}
			i += d * w
			t := m.t(k, bias)
			if i > most || d >= t && w*(m.Base-t) > most {
				return nil, at, api.ErrPuny
			}
			at++
			if d < t {
				break
			}
			w *= m.Base - t
		}
		bias = m.bias(i-old, len(l)+1, old == 0)
		n += i / (len(l) + 1)
		i %= len(l) + 1
		if n > 0x10ffff {
			return nil, at - 1, api.ErrPuny
		}
		if isSurrogate(n) {
			return nil, at - 1, api.ErrSurrogate
		}
		l = slices.Insert(l, i, rune(n))
		i++
	}
	return l, 0, api.OK
}

// short tells a list or a text, or its beginning and its length.
func short[E any](l []E) any {
	if len(l) > 40 {
		return []any{l[:40], "and so on", len(l)}
	}
	return l
}

func isText(t *testing.T, what string, s string, at int, e api.Errno, want string, wantAt int, wantE api.Errno) {
	t.Helper()
	if s != want || at != wantAt || e != wantE {
		t.Errorf("%s: %.99q, %d, %d, not %.99q, %d, %d", what, s, at, e, want, wantAt, wantE)
	}
}

func isList(t *testing.T, what string, l []rune, at int, e api.Errno, want []rune, wantAt int, wantE api.Errno) {
	t.Helper()
	if !slices.Equal(l, want) || at != wantAt || e != wantE {
		t.Errorf("%s: %v, %d, %d, not %v, %d, %d", what, short(l), at, e, short(want), wantAt, wantE)
	}
}

func lower(s string) string {
	b := []byte(s)
	for i, c := range b {
		if c >= 'A' && c <= 'Z' {
			b[i] = c + 32
		}
	}
	return string(b)
}

func upper(s string) string {
	b := []byte(s)
	for i, c := range b {
		if c >= 'a' && c <= 'z' {
			b[i] = c - 32
		}
	}
	return string(b)
}

// properly is a text with small letters behind the last byte between (in all of it, if nothing stands ahead of one).
func properly(s string, between byte) string {
	from := 0
	if at := strings.LastIndexByte(s, between); at > 0 {
		from = at + 1
	}
	return s[:from] + lower(s[from:])
}

// isListBy holds the encoding of a list against the model, and decodes it again.
func isListBy(t *testing.T, m model, l []rune) {
	t.Helper()
	want, wantAt, wantE := m.encode(l)
	s, at, e := EncodeBy(m.Boot, l)
	if s != want || at != wantAt || e != wantE {
		t.Fatalf("EncodeBy(%v, %v): %q, %d, %d, not %q, %d, %d", m.Boot, short(l), s, at, e, want, wantAt, wantE)
	}
	if e != api.OK {
		return
	}
	if again, at, e := DecodeBy(m.Boot, s); !slices.Equal(again, l) || at != 0 || e != api.OK {
		t.Fatalf("DecodeBy(%v, %q): %v, %d, %d, not %v", m.Boot, s, short(again), at, e, short(l))
	}
	if strings.IndexFunc(s, func(c rune) bool { return c >= 128 }) >= 0 {
		t.Fatalf("EncodeBy(%v, %v): %q is not ASCII alone", m.Boot, short(l), s)
	}
}

// isTextBy holds what a text says against the model, and encodes it again.
func isTextBy(t *testing.T, m model, s string) {
	t.Helper()
	want, wantAt, wantE := m.decode(s)
	l, at, e := DecodeBy(m.Boot, s)
	if !slices.Equal(l, want) || at != wantAt || e != wantE {
		t.Fatalf("DecodeBy(%v, %q): %v, %d, %d, not %v, %d, %d", m.Boot, s, short(l), at, e, short(want), wantAt, wantE)
	}
	if e != api.OK {
		return
	}
	if again, at, e := EncodeBy(m.Boot, l); again != properly(s, m.Between) || at != 0 || e != api.OK {
		t.Fatalf("EncodeBy(%v, %v): %q, %d, %d, not %q", m.Boot, short(l), again, at, e, properly(s, m.Between))
	}
}

// lists calls with every list of so many of some; the list is good till the call is back.
func lists[E any](length int, of []E, call func([]E)) {
	l := make([]E, length)
	var fill func(int)
	fill = func(at int) {
		if at == length {
			call(l)
			return
		}
		for _, p := range of {
			l[at] = p
			fill(at + 1)
		}
	}
	fill(0)
}

// randomPoint is a code point, most often one of few that stand near each other, now and then none.
func randomPoint(r *rand.Rand) rune {
	switch r.Intn(40) {
	case 0:
		return []rune{-1, 0x110000, least, most, 0xd800, 0xdfff, 0xdbff, 0xdc00}[r.Intn(8)]
	case 1, 2, 3:
		return []rune{0, 0x7f, 0x80, 0xd7ff, 0xe000, 0xffff, 0x10000, 0x10ffff}[r.Intn(8)]
	case 4, 5:
		return r.Int31n(0x110000)
	case 6, 7, 8, 9, 10, 11:
		return 0x4e00 + r.Int31n(0x5000)
	case 12, 13, 14, 15, 16, 17:
		return 0x400 + r.Int31n(64)
	case 18, 19, 20, 21:
		return 0x80 + r.Int31n(128)
	}
	return r.Int31n(128)
}

func randomList(r *rand.Rand, many int) []rune {
	l := make([]rune, r.Intn(many+1))
	for i := range l {
		l[i] = randomPoint(r)
	}
	return l
}

// randomText is a text of digits to a base, with other bytes now and then.
func randomText(r *rand.Rand, m model, many int) string {
	b := make([]byte, r.Intn(many+1))
	odd := r.Intn(3) > 0
	for i := range b {
		switch k := r.Intn(60); {
		case odd && k == 0:
			b[i] = byte(r.Intn(256))
		case k < 4:
			b[i] = m.Between
		case k < 8:
			b[i] = upper(alphabet)[r.Intn(m.Base)]
		case k < 30:
			// Numbers that are short, so that more of them are read.
			b[i] = alphabet[r.Intn(3)]
		default:
			b[i] = alphabet[r.Intn(m.Base)]
		}
	}
	return string(b)
}

// randomBoot is parameters that may be.
func randomBoot(r *rand.Rand) api.Boot {
	for {
		p := api.Boot{Base: 3 + r.Intn(34), Skew: 1 + r.Intn(100), Damp: 2 + r.Intn(1000), Bias: r.Intn(200), First: 128, Between: byte(33 + r.Intn(94))}
		p.Most = 1 + r.Intn(p.Base-2)
		p.Least = r.Intn(p.Most + 1)
		switch r.Intn(8) {
		case 0:
			p.Least = 0
		case 1:
			p.Least = p.Most
		case 2, 3:
			p.First = 1 + r.Intn(128)
		case 4, 5:
			p.First = 128 + r.Intn(400)
		case 6:
			p.First = 1 + r.Intn(api.MaxPoint)
		}
		switch r.Intn(10) {
		case 0:
			p.Skew, p.Damp, p.Bias = 10000, 10000, 10000
		case 1:
			p.Skew, p.Damp, p.Bias = 1, 2, 0
		}
		if Check(p) == api.OK {
			return p
		}
	}
}
