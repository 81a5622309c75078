package percent

import (
	"slices"
	"sort"
	"strings"
	"testing"
	"unicode/utf16"
	"unicode/utf8"

	"postern/api"
	"postern/scalar"
)

// wantFields cuts a form byte by byte, by the chapter's words.
func wantFields(s string) []api.Field {
	var l []api.Field
	piece, name, value := 0, "", ""
	behind := false
	end := func() {
		if piece > 0 {
			l = append(l, api.Field{Name: scalar.Clean(wantFormDecode(name)), Value: scalar.Clean(wantFormDecode(value))})
		}
		piece, name, value, behind = 0, "", "", false
	}
	for i := range len(s) {
		switch {
		case s[i] == '&':
			end()
			continue
		case behind:
			value += s[i : i+1]
		case s[i] == '=':
			behind = true
		default:
			name += s[i : i+1]
		}
		piece++
	}
	end()
	return l
}

// wantWritten joins the forms of the fields, by the chapter's words.
func wantWritten(l []api.Field) string {
	var written []string
	for _, f := range l {
		written = append(written, wantForm(f.Name)+"="+wantForm(f.Value))
	}
	return strings.Join(written, "&")
}

// wantSorted sorts by units that the library makes.
func wantSorted(l []api.Field) []api.Field {
	sorted := slices.Clone(l)
	units := func(i int) []uint16 { return utf16.Encode(scalar.Decode(sorted[i].Name)) }
	sort.SliceStable(sorted, func(i, j int) bool { return slices.Compare(units(i), units(j)) < 0 })
	return sorted
}

// someForms are texts with fields of all kinds.
func someForms() []string {
	return append(mixedTexts(), "a=1&&b&c==%41+", "=", "&", "&&", "=&=", "==", "a", "a=", "=a", "a=b=c", "&a", "a&", "a=1&a=2&b=3&a=4", "%26=%3d&%3D=%26",
		"+=+&%2B=%2b", "a;b=c;d", "%ff=%fe", "%e2%82=%e2%82%ac&\xe2\x82=\xe2\x82\xac", "%e2%82&%ac", "%e2=%82%ac", "a=%4&1", "a%=1%", "a=%&26=1")
}

// someLists are lists of fields with names and values of all kinds, not all of them UTF-8.
func someLists() [][]api.Field {
	return [][]api.Field{
		nil, {}, pairs("", ""), pairs("", "", "", ""), pairs("a", "1"), pairs("a b", "&"), pairs("", "v", "n", "", "", ""),
		pairs("a", "1", "b", "2", "a", "3", "c", "4", "a", "", "B", "5"),
		pairs("b", "1", "a", "1", "b", "0", "a", "0", "ab", "2", "", "3", "a", "2"),
		pairs("=", "&", "%41", "+ ", "&=", "%", "a=b", "c&d", "+", "%2B"),
		pairs("\xf0\x90\x80\x80", "1", "\xee\x80\x80", "2", "\xef\xbf\xbf", "3", "\xf4\x8f\xbf\xbf", "4", "\xed\x9f\xbf", "5", "\xc3\xbc", "6"),
		pairs("\xff", "1", "\xef\xbf\xbd", "2", "\xfe", "3", "\xe2\x82", "4", "a\xff", "5", "a", "\xff", "\xf0\x9f\x98\x80", "6", "\xff\xff", "7"),
		pairs("\x00", "\x00", "", "\x00", "a\x00", "", "a", ""),
	}
}

// someNames are names to ask such lists for.
func someNames() []string {
	return []string{"", "a", "b", "B", "c", "ab", "a b", "nobody", "\xff", "\xfe", "\xef\xbf\xbd", "\xf0\x90\x80\x80", "\x00", "=", "%41", "A", "a\x00"}
}

// Promise 3.6, of Fields.
func TestFields(t *testing.T) {
	for _, c := range []struct {
		s    string
		want []api.Field
	}{
		{"", nil}, {"&", nil}, {"&&&", nil},
		{"a=1&&b&c==%41+", pairs("a", "1", "b", "", "c", "=A ")},
		{"=", pairs("", "")}, {"==", pairs("", "=")}, {"=&=", pairs("", "", "", "")},
		{"a", pairs("a", "")}, {"a=", pairs("a", "")}, {"=a", pairs("", "a")},
		{"a=b=c=", pairs("a", "b=c=")}, {"&a=1&", pairs("a", "1")},
		{"a=1&a=2&a=1", pairs("a", "1", "a", "2", "a", "1")},
		{"%26=%3d&%3D%26", pairs("&", "=", "=&", "")},
		{"a+b=c+d&%2B=%2b", pairs("a b", "c d", "+", "+")},
		{"a;b=c;d", pairs("a;b", "c;d")},
		{"a=%4&1", pairs("a", "%4", "1", "")}, {"a%=1%", pairs("a%", "1%")}, {"%2541=%", pairs("%41", "%")},
		{"%ff=\xff", pairs("\xef\xbf\xbd", "\xef\xbf\xbd")},
		{"%e2%82=%e2\x82A", pairs("\xef\xbf\xbd", "\xef\xbf\xbdA")},
		{"%e2%82%ac=\xe2%82\xac", pairs("\xe2\x82\xac", "\xe2\x82\xac")},
		{"%e2=%82%ac", pairs("\xef\xbf\xbd", "\xef\xbf\xbd\xef\xbf\xbd")},
		{"%ed%a0%80", pairs("\xef\xbf\xbd\xef\xbf\xbd\xef\xbf\xbd", "")},
		{"%ef%bb%bfa=%00", pairs("\xef\xbb\xbfa", "\x00")},
	} {
		if got := Fields(c.s); !slices.Equal(got, c.want) {
			t.Errorf("Fields(%q) = %q, want %q", c.s, got, c.want)
		}
	}
}

func TestFieldsAgainstTheModel(t *testing.T) {
	check := func(s string) {
		if got, want := Fields(s), wantFields(s); !slices.Equal(got, want) {
			t.Errorf("Fields(%q) = %q, want %q", s, got, want)
		}
	}
	for _, s := range someForms() {
		check(s)
	}
	for length := range 7 {
		texts(length, "&=a+", check)
	}
	for length := range 6 {
		texts(length, "&=%26\xe2", check)
	}
}

// Promise 3.6, of Written.
func TestWritten(t *testing.T) {
	for _, c := range []struct {
		l    []api.Field
		want string
	}{
		{nil, ""}, {[]api.Field{}, ""}, {pairs("a b", "&"), "a+b=%26"}, {pairs("", ""), "="},
		{pairs("", "", "", ""), "=&="}, {pairs("a", "", "", "b"), "a=&=b"},
		{pairs("a=b", "c&d", "%", "+"), "a%3Db=c%26d&%25=%2B"}, {pairs("\xff", "\xc3\xbc"), "%FF=%C3%BC"},
	} {
		if got := Written(c.l); got != c.want {
			t.Errorf("Written(%q) = %q, want %q", c.l, got, c.want)
		}
	}
	for _, l := range someLists() {
		if got, want := Written(l), wantWritten(l); got != want {
			t.Errorf("Written(%q) = %q, want %q", l, got, want)
		}
	}
}

// isUTF8 is whether all names and values are.
func isUTF8(l []api.Field) bool {
	return !slices.ContainsFunc(l, func(f api.Field) bool { return !utf8.ValidString(f.Name) || !utf8.ValidString(f.Value) })
}

// Promise 3.9, there and back.
func TestFieldsOfWritten(t *testing.T) {
	for _, l := range someLists() {
		if got := Fields(Written(l)); isUTF8(l) && !slices.Equal(got, l) {
			t.Errorf("Fields of Written(%q) = %q", l, got)
		}
	}
	for _, s := range someForms() {
		l := Fields(s)
		if got := Fields(Written(l)); !slices.Equal(got, l) {
			t.Errorf("%q: Fields of Written(%q) = %q", s, l, got)
		}
	}
	for r := rune(0); r <= 0x10ffff; r += 97 {
		l := pairs(string(r), "a"+string(r))
		if got := Fields(Written(l)); !slices.Equal(got, l) {
			t.Errorf("Fields of Written(%q) = %q", l, got)
		}
	}
}

// Promise 3.7, of Get and All.
func TestGetAndAll(t *testing.T) {
	l := Fields("a=1&b&a=2&=x&a=1&c=3")
	for _, c := range []struct {
		name, value string
		has         bool
		all         []string
	}{
		{"a", "1", true, []string{"1", "2", "1"}}, {"b", "", true, []string{""}}, {"", "x", true, []string{"x"}}, {"c", "3", true, []string{"3"}},
		{"d", "", false, nil}, {"A", "", false, nil}, {"a ", "", false, nil}, {"1", "", false, nil}, {"\xff", "", false, nil},
	} {
		if value, has := Get(l, c.name); value != c.value || has != c.has {
			t.Errorf("Get(%q) = %q, %v, want %q, %v", c.name, value, has, c.value, c.has)
		}
		if all := All(l, c.name); !slices.Equal(all, c.all) {
			t.Errorf("All(%q) = %q, want %q", c.name, all, c.all)
		}
	}
	for _, empty := range [][]api.Field{nil, {}} {
		if value, has := Get(empty, "a"); value != "" || has || len(All(empty, "a")) != 0 {
			t.Errorf("Get of no fields = %q, %v, All %q", value, has, All(empty, "a"))
		}
	}
}

// A name is its bytes: one that is no UTF-8 is not the one that it would be cleaned to.
func TestNamesAreBytes(t *testing.T) {
	l := pairs("\xff", "1", "\xef\xbf\xbd", "2", "\xfe", "3")
	for i, f := range l {
		if value, has := Get(l, f.Name); value != f.Value || !has {
			t.Errorf("Get(%q) = %q, %v, want %q", f.Name, value, has, f.Value)
		}
		if got, want := Without(l, f.Name), slices.Delete(slices.Clone(l), i, i+1); !slices.Equal(got, want) {
			t.Errorf("Without(%q) = %q, want %q", f.Name, got, want)
		}
	}
}

// Promise 3.7, of Set.
func TestSet(t *testing.T) {
	for _, c := range []struct {
		l           []api.Field
		name, value string
		want        []api.Field
	}{
		{nil, "a", "1", pairs("a", "1")},
		{[]api.Field{}, "", "", pairs("", "")},
		{pairs("a", "1"), "a", "2", pairs("a", "2")},
		{pairs("a", "1"), "b", "2", pairs("a", "1", "b", "2")},
		{pairs("a", "1"), "A", "2", pairs("a", "1", "A", "2")},
		{pairs("x", "0", "a", "1", "y", "2", "a", "3", "z", "4", "a", "5"), "a", "9",
			pairs("x", "0", "a", "9", "y", "2", "z", "4")},
		{pairs("a", "1", "a", "2", "a", "3"), "a", "", pairs("a", "")},
		{pairs("b", "1", "a", "2", "b", "3"), "a", "2", pairs("b", "1", "a", "2", "b", "3")},
		{pairs("\xff", "1"), "\xef\xbf\xbd", "2", pairs("\xff", "1", "\xef\xbf\xbd", "2")},
	} {
		if got := Set(c.l, c.name, c.value); !slices.Equal(got, c.want) {
			t.Errorf("Set(%q, %q, %q) = %q, want %q", c.l, c.name, c.value, got, c.want)
		}
	}
}

// Promise 3.7, of Without.
func TestWithout(t *testing.T) {
	for _, c := range []struct {
		l    []api.Field
		name string
		want []api.Field
	}{
		{nil, "a", nil}, {[]api.Field{}, "", nil}, {pairs("a", "1"), "a", nil}, {pairs("a", "1"), "b", pairs("a", "1")},
		{pairs("a", "1", "b", "2", "a", "3", "", "4"), "a", pairs("b", "2", "", "4")},
		{pairs("a", "1", "", "2", "", "", "b", ""), "", pairs("a", "1", "b", "")},
		{pairs("a", "1", "a", "1"), "A", pairs("a", "1", "a", "1")},
	} {
		if got := Without(c.l, c.name); !slices.Equal(got, c.want) {
			t.Errorf("Without(%q, %q) = %q, want %q", c.l, c.name, got, c.want)
		}
	}
}

// Promises 3.7 and 3.9, of all lists and names.
func TestFieldsOfNames(t *testing.T) {
	for _, l := range someLists() {
		for _, name := range someNames() {
			set, without := Set(l, name, "new"), Without(l, name)
			if value, has := Get(set, name); value != "new" || !has || len(All(set, name)) != 1 {
				t.Errorf("Set(%q, %q) = %q", l, name, set)
			}
			if got := Without(set, name); !slices.Equal(got, without) {
				t.Errorf("Set(%q, %q) = %q, and without that name %q, want %q", l, name, set, got, without)
			}
			if value, has := Get(without, name); value != "" || has || len(All(without, name)) != 0 {
				t.Errorf("Without(%q, %q) = %q", l, name, without)
			}
			if len(without)+len(All(l, name)) != len(l) {
				t.Errorf("%q: %q without %q, and %q", l, without, name, All(l, name))
			}
		}
	}
}

// Promise 3.7, of Sorted.
func TestSorted(t *testing.T) {
	for _, c := range []struct{ l, want []api.Field }{
		{nil, nil}, {[]api.Field{}, nil}, {pairs("a", "1"), pairs("a", "1")},
		{pairs("b", "1", "a", "2"), pairs("a", "2", "b", "1")},
		{pairs("ab", "1", "a", "2", "", "3", "aa", "4"), pairs("", "3", "a", "2", "aa", "4", "ab", "1")},
		{pairs("a", "2", "b", "9", "a", "1", "b", "0", "a", "3"), pairs("a", "2", "a", "1", "a", "3", "b", "9", "b", "0")},
		{pairs("a", "1", "B", "2", "_", "3"), pairs("B", "2", "_", "3", "a", "1")},
		// U+E000 and U+FFFF have one unit each, which is above the first one of all that lies beyond U+FFFF; that of U+D7FF is below.
		{pairs("\xef\xbf\xbf", "1", "\xee\x80\x80", "2", "\xf4\x8f\xbf\xbf", "3", "\xf0\x90\x80\x80", "4", "\xed\x9f\xbf", "5"),
			pairs("\xed\x9f\xbf", "5", "\xf0\x90\x80\x80", "4", "\xf4\x8f\xbf\xbf", "3", "\xee\x80\x80", "2", "\xef\xbf\xbf", "1")},
		{pairs("a\xee\x80\x80", "1", "a\xf0\x90\x80\x80b", "2", "a\xf0\x90\x80\x80", "3"),
			pairs("a\xf0\x90\x80\x80", "3", "a\xf0\x90\x80\x80b", "2", "a\xee\x80\x80", "1")},
		// What is no UTF-8 has the unit of U+FFFD, and is of one name with it.
		{pairs("\xff", "1", "\xef\xbf\xbd", "2", "\xfe", "3", "\xe2\x82", "4", "\xf0\x9f\x98\x80", "5", "\xef\xbf\xbe", "6", "\xf0\x80", "7"),
			pairs("\xf0\x9f\x98\x80", "5", "\xff", "1", "\xef\xbf\xbd", "2", "\xfe", "3", "\xe2\x82", "4", "\xf0\x80", "7", "\xef\xbf\xbe", "6")},
	} {
		if got := Sorted(c.l); !slices.Equal(got, c.want) {
			t.Errorf("Sorted(%q) = %q, want %q", c.l, got, c.want)
		}
	}
	for _, l := range someLists() {
		if got, want := Sorted(l), wantSorted(l); !slices.Equal(got, want) {
			t.Errorf("Sorted(%q) = %q, want %q", l, got, want)
		}
	}
}

// A list that is long enough for a sort that is not stable to show.
func TestSortedIsStable(t *testing.T) {
	names := []string{"b", "\xf0\x90\x80\x80", "a", "\xff", "\xef\xbf\xbd", "", "\xee\x80\x80", "a"}
	var l []api.Field
	for i := range 1000 {
		l = append(l, api.Field{Name: names[(i*i+i/3)%len(names)], Value: wantHex(byte(i)) + wantHex(byte(i>>8))})
	}
	if got, want := Sorted(l), wantSorted(l); !slices.Equal(got, want) {
		t.Errorf("Sorted of %d fields is not theirs", len(l))
	}
}

// Rule R4: lists that are handed in stay as they are, with what lies behind them.
func TestListsHandedInStay(t *testing.T) {
	spare := api.Field{Name: "spare", Value: "room"}
	for _, l := range someLists() {
		for _, name := range append(someNames(), "spare") {
			made := withSpare(l, spare)
			Get(made, name)
			All(made, name)
			Set(made, name, "new")
			Without(made, name)
			Sorted(made)
			Written(made)
			if !sparesKept(l, made, spare) {
				t.Errorf("%q was changed into %q", l, made[:len(made)+3])
			}
		}
	}
}

// Rule R4: a caller may do to an answer, and to the room behind it, what it likes.
func TestListsHandedOutAreNew(t *testing.T) {
	const form = "b=1&a=2&b=3&c=4"
	fields := pairs("b", "1", "a", "2", "b", "3", "c", "4")
	given := slices.Clone(fields)
	spoiled := api.Field{Name: "spoiled", Value: "spoiled"}
	for range 3 {
		told, all := Fields(form), All(given, "b")
		set, added := Set(given, "b", "9"), Set(given, "d", "9")
		without, same, sorted := Without(given, "b"), Without(given, "nobody"), Sorted(given)
		if !slices.Equal(told, fields) || !slices.Equal(all, []string{"1", "3"}) || !slices.Equal(same, fields) ||
			!slices.Equal(set, pairs("b", "9", "a", "2", "c", "4")) ||
			!slices.Equal(added, append(slices.Clone(fields), api.Field{Name: "d", Value: "9"})) ||
			!slices.Equal(without, pairs("a", "2", "c", "4")) ||
			!slices.Equal(sorted, pairs("a", "2", "b", "1", "b", "3", "c", "4")) {
			t.Errorf("answers that were changed: %q, %q, %q, %q, %q, %q, %q", told, all, set, added, without, same, sorted)
		}
		for _, l := range [][]api.Field{told, set, added, without, same, sorted} {
			spoil(l, spoiled)
		}
		spoil(all, "spoiled")
	}
	if !slices.Equal(given, fields) {
		t.Errorf("the list that was handed in was changed into %q through an answer", given)
	}
}
