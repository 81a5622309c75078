package puny

import (
	"slices"
	"sync"
	"testing"

	"postern/api"
)

// fill writes over a list, its spare room too.
func fill(l []rune) {
	l = l[:cap(l)]
	for i := range l {
		l[i] = -7
	}
}

// Rule R4: a list that is handed in stays, with what lies about it.
func TestWhatIsHandedInStays(t *testing.T) {
	for _, list := range [][]rune{nil, {97}, {252}, {0x4e00, 97, 0x4e8c, 98, 252, 97}, {0x10ffff, 0, 128}, {97, -1, 252}, {252, 0xd800}, long(2500, 7, 0x10ffff)} {
		all := slices.Concat([]rune{252, 65}, list, []rune{0x5000, 66, 128})
		was := slices.Clone(all)
		l := all[2 : 2+len(list)]
		Encode(l)
		EncodeBy(Usual(), l)
		EncodeBy(api.Boot{}, l)
		EncodeBy(with(func(p *api.Boot) { p.First = 300 }), l)
		if !slices.Equal(all, was) {
			t.Errorf("%v was changed", short(list))
		}
	}
}

// Rules R4, R5: what comes out is the caller's own, with its spare room, and asked again it is the same.
func TestWhatComesOutIsOwn(t *testing.T) {
	for text, list := range samples() {
		first, _, _ := Decode(text)
		second, _, _ := Decode(text)
		third, _, _ := DecodeBy(Usual(), text)
		fill(first)
		isList(t, text, second, 0, api.OK, list, 0, api.OK)
		isList(t, text, third, 0, api.OK, list, 0, api.OK)
		again, at, e := Decode(text)
		isList(t, text, again, at, e, list, 0, api.OK)
	}
}

// Rule R5: nothing is kept from call to call, so that all may be asked at one time.
func TestAtOneTime(t *testing.T) {
	var all sync.WaitGroup
	for range 8 {
		all.Go(func() {
			for range 20 {
				for text, list := range samples() {
					l, at, e := Decode(text)
					isList(t, text, l, at, e, list, 0, api.OK)
					s, at, e := Encode(list)
					isText(t, text, s, at, e, text, 0, api.OK)
				}
			}
		})
	}
	all.Wait()
}
