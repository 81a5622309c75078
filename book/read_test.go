package book

import (
	"fmt"
	"slices"
	"strings"
	"testing"

	"postern/api"
)

// readsAs holds what is read against a book.
func readsAs(t *testing.T, s string, want api.Book) {
	t.Helper()
	b, n, e := Read(s)
	if !sameBook(b, want) || n != 0 || e != api.OK {
		t.Errorf("Read(%.200q): %v, %d, %d, not %v", s, b, n, e, want)
	}
}

// failsAt holds an error and its line against what is wanted; the book is nothing then.
func failsAt(t *testing.T, s string, number int, want api.Errno) {
	t.Helper()
	b, n, e := Read(s)
	if !sameBook(b, api.Book{}) || n != number || e != want {
		t.Errorf("Read(%.200q): %v, %d, %d, not %d, %d", s, len(b.Names), n, e, number, want)
	}
}

// Promise 10.1: lines of every kind.
func TestReadKinds(t *testing.T) {
	for s, want := range map[string]api.Book{
		"":                                 {},
		"\n\n # note\n":                    {},
		"valid; 0061..007A":                addRow(api.Book{}, api.ListStatus, 97, 122, 1),
		"ignored;00AD":                     addRow(api.Book{}, api.ListStatus, 173, 173, 2),
		"deviation \t;\t 00DF \r\n":        addRow(api.Book{}, api.ListStatus, 223, 223, 3),
		"mapped; 0041; 0061":               addRow(api.Book{}, api.ListMaps, 65, 65, 0, 97),
		"mapped; 0000..10ffff; 0061  0062": addRow(api.Book{}, api.ListMaps, 0, last, 0, 97, 98),
		"class; 0300..0314; 230":           addRow(api.Book{}, api.ListClass, 768, 788, 230),
		"decomposed; 00C0; 0041 0300":      addRow(api.Book{}, api.ListDecomp, 192, 192, 0, 65, 768),
		"excluded; 0958":                   addRow(api.Book{}, api.ListExcluded, 2392, 2392, 0),
		"bidi; 05D0..05EA; R":              addRow(api.Book{}, api.ListBidi, 1488, 1514, 1),
		"joining; 0628; D # beh":           addRow(api.Book{}, api.ListJoin, 1576, 1576, 3),
		"mark; 0300..036F#marks":           addRow(api.Book{}, api.ListMarks, 768, 879, 0),
		"script; 0041; Latin":              addRow(api.Book{Names: []string{"Latin"}}, api.ListScript, 65, 65, 1),
		"like; 006D; 0072 006E":            addRow(api.Book{}, api.ListLike, 109, 109, 0, 114, 110),
	} {
		readsAs(t, s, want)
	}
}

// Promise 10.1: a book that may not be is read all the same, with its rows in the order of their lines.
func TestReadWhatMayNotBe(t *testing.T) {
	want := api.Book{
		Names:    []string{"Zz", "Aa", "aa"},
		Status:   []api.Value{{From: 9, To: 10, N: 3}, {From: 0, To: last, N: 1}, {From: 9, To: 10, N: 2}},
		Maps:     []api.Chars{{From: 9, To: 9}, {From: 5, To: 6, Is: []rune{0xd800, 0x10ffff}}, {From: 1, To: 1, Is: slices.Repeat([]rune{97}, 30)}},
		Class:    []api.Value{{From: 0x1100, To: 0x1100, N: 0}, {From: 1, To: 1, N: -999999999}, {From: 1, To: 1, N: 999999999}},
		Decomp:   []api.Chars{{From: 0xac00, To: 0xac05, Is: []rune{1, 2, 3}}, {From: 1, To: 1, Is: []rune{1}}},
		Excluded: []api.Span{{From: 0xac00, To: 0xac00}, {From: 1, To: 1}, {From: 1, To: 1}},
		Marks:    []api.Span{{From: 5, To: 9}, {From: 5, To: 5}},
		Script:   []api.Value{{From: 7, To: 7, N: 1}, {From: 5, To: 5, N: 2}, {From: 5, To: 5, N: 1}, {From: 6, To: 6, N: 3}},
		Like:     []api.Chars{{From: 1, To: 1}, {From: 1, To: 1}},
	}
	long := strings.Repeat("0061 ", 30)
	readsAs(t, "deviation; 0009..000A\nmapped; 0009;\nclass; 1100; 0\nvalid; 0000..10FFFF\nignored; 0009..000A\nmapped; 0005..0006; D800 10FFFF\nmapped; 0001; "+long+
		"\nclass; 0001; -999999999\nclass; 0001; 999999999\ndecomposed; AC00..AC05; 0001 0002 0003\ndecomposed; 0001; 0001\nexcluded; AC00\nexcluded; 0001\nexcluded; 0001\n"+
		"mark; 0005..0009\nmark; 0005\nscript; 0007; Zz\nscript; 0005; Aa\nscript; 0005; Zz\nscript; 0006; aa\nlike; 0001;\nlike; 0001; \n", want)
}

// Promise 10.1: every name of a direction and a joining, and what is none.
func TestReadCalled(t *testing.T) {
	for n, name := range strings.Fields("L R AL EN ES ET AN CS NSM BN ON B S WS LRE LRO RLE RLO PDF LRI RLI FSI PDI") {
		readsAs(t, "bidi; 0041; "+name, addRow(api.Book{}, api.ListBidi, 65, 65, n))
	}
	for n, name := range strings.Fields("U L R D T C") {
		readsAs(t, "joining; 0041; "+name, addRow(api.Book{}, api.ListJoin, 65, 65, n))
	}
	for _, name := range []string{"", "X", "l", "al", "Al", "L R", "L,R", "0", "1", "NSMX", "U", "D", "T", "C", "LL", "PDI.", "Ｌ"} {
		failsAt(t, "bidi; 0041; "+name, 1, api.ErrCalled)
	}
	for _, name := range []string{"", "X", "u", "AL", "EN", "UL", "B", "S", "0", "D D", "WS"} {
		failsAt(t, "joining; 0041; "+name, 1, api.ErrCalled)
	}
	for _, name := range []string{"", "Latin1", "La tin", "Old_Italic", "Lat\tin", "L-", "É", "\xff", "@", "[", "`", "{", "Latin\x00", strings.Repeat("a", 33), strings.Repeat("Z", 100)} {
		failsAt(t, "script; 0041; "+name, 1, api.ErrCalled)
	}
	for _, name := range []string{"a", "z", "A", "Z", "AZaz", strings.Repeat("a", 32)} {
		readsAs(t, "script; 0041; "+name, addRow(api.Book{Names: []string{name}}, api.ListScript, 65, 65, 1))
	}
}

// Promise 10.1: names in the order in which they come first, more than MaxScripts of them too.
func TestReadNames(t *testing.T) {
	readsAs(t, "script; 0100; Han\nvalid; 0001\nscript; 0050; Latin\nscript; 0200; Han\nscript; 0001; han\nscript; 0003; Latin\n", api.Book{
		Names:  []string{"Han", "Latin", "han"},
		Status: []api.Value{{From: 1, To: 1, N: 1}},
		Script: []api.Value{{From: 256, To: 256, N: 1}, {From: 80, To: 80, N: 2}, {From: 512, To: 512, N: 1}, {From: 1, To: 1, N: 3}, {From: 3, To: 3, N: 2}},
	})
	var s strings.Builder
	var want api.Book
	for i := range 700 {
		name := strings.Map(func(p rune) rune { return p - '0' + 'a' }, fmt.Sprint(i))
		want.Names = append(want.Names, name)
		want.Script = append(want.Script, api.Value{From: rune(i), To: rune(i), N: i + 1})
		fmt.Fprintf(&s, "script; %04X; %s\n", i, name)
	}
	readsAs(t, s.String(), want)
}

// Promise 10.1: which error is told, of each kind, with each thing right or wrong.
func TestReadWhichError(t *testing.T) {
	third := map[string][2]string{
		"mapped": {"0061 0062", "61"}, "decomposed": {"0061", "0061 x"}, "like": {"", "110000"}, "class": {"7", "0x7"},
		"bidi": {"ON", "on"}, "joining": {"T", "tt"}, "script": {"Han", "H4n"},
	}
	wrongThird := map[string]api.Errno{"mapped": api.ErrPoint, "decomposed": api.ErrPoint, "like": api.ErrPoint, "class": api.ErrWhole, "bidi": api.ErrCalled, "joining": api.ErrCalled, "script": api.ErrCalled}
	for _, kind := range strings.Fields("valid ignored deviation mapped class decomposed excluded bidi joining mark script like") {
		for _, word := range []string{kind, strings.ToUpper(kind), kind + "s", kind[1:], kind + " x", ""} {
			for _, span := range []string{"0041", "0041..0043", "", "41", "0043..0041", "0041-0043", "x", "0041 0042", "110000"} {
				for wrong := range 2 {
					for many := 1; many <= 70; many++ {
						fields := append([]string{word, span, third[kind][wrong]}, slices.Repeat([]string{"y"}, 70)...)[:many]
						right := 2
						if third[kind] != [2]string{} {
							right = 3
						}
						want := api.OK
						switch {
						case word == "" && many == 1:
							continue
						case word != kind:
							want = api.ErrKind
						case many != right:
							want = api.ErrFields
						case !strings.HasPrefix(span, "0041") || strings.Contains(span, "-") || strings.Contains(span, " "):
							want = api.ErrRange
						case wrong == 1:
							want = wrongThird[kind]
						}
						line := strings.Join(fields, ";")
						if want != api.OK {
							failsAt(t, line, 1, want)
						} else if _, n, e := Read(line); n != 0 || e != api.OK {
							t.Errorf("Read(%q): %d, %d", line, n, e)
						}
					}
				}
			}
		}
	}
}

// Promise 10.1: which line is told, notes and empty lines counted with the others.
func TestReadWhichLine(t *testing.T) {
	for s, want := range map[string]struct {
		n int
		e api.Errno
	}{
		"valid\n":                                {1, api.ErrFields},
		"vali; 0\n":                              {1, api.ErrKind},
		"bidi; 0041; X":                          {1, api.ErrCalled},
		"class; 0300; x":                         {1, api.ErrWhole},
		"class; 0300; 1234567890":                {1, api.ErrWhole},
		"class; 0300; ":                          {1, api.ErrWhole},
		"mark; 1":                                {1, api.ErrRange},
		"like; 0041; 1":                          {1, api.ErrPoint},
		"like; 0041; 0061\t0062":                 {1, api.ErrPoint},
		";":                                      {1, api.ErrKind},
		"; 0041":                                 {1, api.ErrKind},
		"valid 0041":                             {1, api.ErrKind},
		"Valid; 0041":                            {1, api.ErrKind},
		"valid;":                                 {1, api.ErrRange},
		"valid; 0041;":                           {1, api.ErrFields},
		"mapped; 0041":                           {1, api.ErrFields},
		"mapped; 0041 # ; 0061":                  {1, api.ErrFields},
		"valid; 0041\n\n# x\nmark; z\nvali; 1\n": {4, api.ErrRange},
		"valid; 0041\r\n\r\nvali; 1\r\nmark; z\r\n":           {3, api.ErrKind},
		"script; 0041; Han\nscript; 0042; H4n\nscript; x; 12": {2, api.ErrCalled},
		"\n\n\nclass; 0300; x # note":                         {4, api.ErrWhole},
	} {
		failsAt(t, s, want.n, want.e)
	}
}

// Promise 10.1: MaxLines lines, and one more, which goes ahead of every wrong line.
func TestReadManyLines(t *testing.T) {
	const most = 262144
	many := strings.Repeat("mark; 0041\n", most)
	b, n, e := Read("# note\n\n" + many + "\n \n# note; 0041")
	if len(b.Marks) != most || n != 0 || e != api.OK {
		t.Errorf("MaxLines lines: %d rows, %d, %d", len(b.Marks), n, e)
	}
	failsAt(t, many+"mark; 0041", 0, api.ErrLines)
	failsAt(t, "wrong\n"+many, 0, api.ErrLines)
	failsAt(t, many+"wrong", 0, api.ErrLines)
	failsAt(t, many+"\n\nwrong\n", 0, api.ErrLines)
	failsAt(t, "\n"+many[len("mark; 0041\n"):]+"wrong", most+1, api.ErrKind)
	failsAt(t, "wrong\n"+many[len("mark; 0041\n"):]+"\n# note\n", 1, api.ErrKind)
}
