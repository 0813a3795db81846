package handle

import (
	"bytes"
	"maps"
	"regexp"
	"slices"
	"strings"
	"testing"

	"bedside/api"
)

// form says what a handle is, but for its length, in another way than the package does.
var form = regexp.MustCompile(`^[a-z][a-z0-9_-]*(\.[a-z0-9_-]+)*$`)

func isHandle(s string) bool {
	return len(s) <= 16 && form.MatchString(s)
}

// stringsOf gives all strings of at most n of the letters.
func stringsOf(letters []string, n int) []string {
	all := []string{""}
	for from := 0; n > 0; n-- {
		to := len(all)
		for _, s := range all[from:to] {
			for _, c := range letters {
				all = append(all, s+c)
			}
		}
		from = to
	}
	return all
}

// listsOf gives all lists of at most n of the strings.
func listsOf(words []string, n int) [][]string {
	all := [][]string{nil}
	for from := 0; n > 0; n-- {
		to := len(all)
		for _, l := range all[from:to] {
			for _, w := range words {
				all = append(all, append(slices.Clone(l), w))
			}
		}
		from = to
	}
	return all
}

// setOf gives the strings of the lists, ascending, each once.
func setOf(lists ...[]string) []string {
	set := map[string]bool{}
	for _, l := range lists {
		for _, s := range l {
			set[s] = true
		}
	}
	return slices.Sorted(maps.Keys(set))
}

// strange are strings that are no handles, but may stand in lists.
var strange = []string{"", "-", ".", "A", "a.", "a b", "\x00", "\x7f", "\x80", "\xff", "\xc3\xa4", "\xc3", "\xf0\x9f\x98\x80", "\xef\xbf\xbd", strings.Repeat("a", 17), strings.Repeat("z", 1000)}

// P1.1

func TestMayByLength(t *testing.T) {
	for n := range 40 {
		s := strings.Repeat("a", n)
		if got, want := May(s), n >= 1 && n <= 16; got != want {
			t.Errorf("%d letters: %v", n, got)
		}
	}
	for s, want := range map[string]bool{
		"abcdefghijklmno.":                false,
		"abcdefghijklmn.p":                true,
		"abcdefghijklmno.q":               false,
		"abcdefghijklm..p":                false,
		"a.b.c.d.e.f.g.hi":                true,
		"a.b.c.d.e.f.g.h.i":               false,
		"aaaaaaaaaaaaaaa\xc3\xa4":         false, // 17 bytes, 16 characters
		"\xc3\xa4aaaaaaaaaaaaaa":          false,
		strings.Repeat("a", 1<<20):        false,
		strings.Repeat("a.", 1<<20) + "a": false,
		strings.Repeat("a", 15) + "\x00":  false,
		strings.Repeat("a", 15) + "\xff":  false,
		strings.Repeat("a", 15) + "-":     true,
		strings.Repeat("a", 15) + "9":     true,
		"z" + strings.Repeat("_", 15):     true,
	} {
		if May(s) != want {
			t.Errorf("%.40q: %v", s, !want)
		}
	}
}

func TestMayByEachByte(t *testing.T) {
	for b := range 256 {
		c := string([]byte{byte(b)})
		for _, s := range []string{c, c + "a", "a" + c, "a" + c + "a", "a." + c, c + "." + c, "aaaaaaaaaaaaaaa" + c} {
			if May(s) != isHandle(s) {
				t.Errorf("%q: %v", s, May(s))
			}
		}
	}
}

func TestMayByShortStrings(t *testing.T) {
	for _, s := range stringsOf([]string{"a", "z", "7", ".", "-", "_", "Q", " ", "\xc3"}, 5) {
		if May(s) != isHandle(s) {
			t.Errorf("%q: %v", s, May(s))
		}
	}
}

func TestCompare(t *testing.T) {
	for _, x := range []struct {
		a, b string
		want int
	}{
		{"", "", 0}, {"", "a", -1}, {"a", "", 1},
		{"mds0", "mds0", 0}, {"mds0", "mds1", -1}, {"mds1", "mds0", 1},
		{"mds0", "mds0.vmd", -1}, {"mds0.vmd", "mds0", 1},
		{"b", "aa", 1}, {"aa", "b", -1}, {"a10", "a9", -1},
		{"a-", "a.", -1}, {"a.", "a0", -1}, {"a0", "a_", -1}, {"a_", "aa", -1},
		{"A", "a", -1}, {"a\x00", "a", 1}, {"\xff", "\xf0\x9f\x98\x80", 1}, {"\x80", "z", 1}, {"\xc3", "\xc3\xa4", -1}, {"\xc3\xa4", "\xef\xbf\xbd", -1}, {"\xff", "\xef\xbf\xbd", 1},
	} {
		if got := Compare(x.a, x.b); got != x.want {
			t.Errorf("%q, %q: %d", x.a, x.b, got)
		}
	}
}

func TestCompareGoesByBytes(t *testing.T) {
	words := append(stringsOf([]string{"a", "-", "\xc3", "\xff"}, 3), strange...)
	for _, a := range words {
		for _, b := range words {
			if got, want := Compare(a, b), bytes.Compare([]byte(a), []byte(b)); got != want {
				t.Errorf("%q, %q: %d", a, b, got)
			}
		}
	}
}

func TestParts(t *testing.T) {
	for s, want := range map[string][]string{
		"a":                {"a"},
		"mds0.vmd-1":       {"mds0", "vmd-1"},
		"a.1":              {"a", "1"},
		"a.-._":            {"a", "-", "_"},
		"a.b.c.d.e.f.g.hi": {"a", "b", "c", "d", "e", "f", "g", "hi"},
		"abcdefghijklmn.p": {"abcdefghijklmn", "p"},
		"abcdefghijklmnop": {"abcdefghijklmnop"},
	} {
		if got := Parts(s); !slices.Equal(got, want) {
			t.Errorf("%q: %q", s, got)
		}
	}
	for _, s := range append([]string{"a.", ".a", "a..b", "1a", "a.B", "a.b c", "abcdefghijklmno.q", "a.b\xff"}, strange...) {
		if got := Parts(s); len(got) != 0 {
			t.Errorf("%q: %q", s, got)
		}
	}
}

func TestPartsJoinToTheHandle(t *testing.T) {
	for _, s := range stringsOf([]string{"a", "7", ".", "-"}, 6) {
		got := Parts(s)
		if !isHandle(s) {
			if len(got) != 0 {
				t.Errorf("%q: %q", s, got)
			}
			continue
		}
		if len(got) != strings.Count(s, ".")+1 || strings.Join(got, ".") != s {
			t.Errorf("%q: %q", s, got)
		}
	}
}

func TestPartsAreNewEachTime(t *testing.T) {
	a, b := Parts("a.b"), Parts("a.b")
	a[0] = "x"
	if b[0] != "a" || Parts("a.b")[0] != "a" {
		t.Error("shared")
	}
}

// P1.2

func TestRising(t *testing.T) {
	for _, l := range [][]string{nil, {}, {""}, {"a"}, {"", "a"}, {"a", "aa", "b"}, {"a", "a-", "a.", "a0"}, {"a\xc3", "a\xff"}, strange[:1]} {
		if !Rising(l) {
			t.Errorf("%q is", l)
		}
	}
	for _, l := range [][]string{{"a", "a"}, {"", ""}, {"b", "a"}, {"aa", "a"}, {"a", "b", "b"}, {"a", "b", "a"}, {"b", "a", "c"}, {"a", "c", "b", "d"}, {"\xff", "\xc3\xa4"}, {"a.", "a-"}} {
		if Rising(l) {
			t.Errorf("%q isn't", l)
		}
	}
}

func TestSort(t *testing.T) {
	for _, x := range []struct{ l, want []string }{
		{nil, nil},
		{[]string{}, nil},
		{[]string{""}, []string{""}},
		{[]string{"a"}, []string{"a"}},
		{[]string{"a", "a", "a"}, []string{"a"}},
		{[]string{"b", "a", "c", "a"}, []string{"a", "b", "c"}},
		{[]string{"a10", "a9", "a.1", "a-1", "a_1", "a"}, []string{"a", "a-1", "a.1", "a10", "a9", "a_1"}},
		{[]string{"\xff", "", "A", "\xff", "\xc3\xa4", ""}, []string{"", "A", "\xc3\xa4", "\xff"}},
	} {
		if got := Sort(x.l); !slices.Equal(got, x.want) {
			t.Errorf("%q: %q", x.l, got)
		}
	}
}

func TestSortALongList(t *testing.T) {
	var l []string
	for i := range 5000 {
		l = append(l, strings.Repeat("z", i*7919%13)+string(rune('a'+i*31%26)))
	}
	if got := Sort(l); !slices.Equal(got, setOf(l)) {
		t.Errorf("%d strings", len(got))
	}
}

// P1.3

func TestMerge(t *testing.T) {
	for _, x := range []struct{ a, b, want []string }{
		{nil, nil, nil},
		{nil, []string{"b", "a", "b"}, []string{"a", "b"}},
		{[]string{"b", "a", "b"}, nil, []string{"a", "b"}},
		{[]string{"b", "a"}, []string{"c", "a"}, []string{"a", "b", "c"}},
		{[]string{"a", "b"}, []string{"a", "b"}, []string{"a", "b"}},
		{[]string{"z", "z"}, []string{"a", "a"}, []string{"a", "z"}},
		{[]string{"", "\xff"}, []string{"A", ""}, []string{"", "A", "\xff"}},
	} {
		if got := Merge(x.a, x.b); !slices.Equal(got, x.want) {
			t.Errorf("%q, %q: %q", x.a, x.b, got)
		}
	}
}

func TestWithout(t *testing.T) {
	for _, x := range []struct{ a, b, want []string }{
		{nil, nil, nil},
		{nil, []string{"a"}, nil},
		{[]string{"b", "a", "b"}, nil, []string{"a", "b"}},
		{[]string{"b", "a", "c", "a"}, []string{"a", "d"}, []string{"b", "c"}},
		{[]string{"b", "a", "b"}, []string{"b", "b", "a"}, nil},
		{[]string{"c", "a", "b"}, []string{"c", "b", "a", "c"}, nil},
		{[]string{"a", "aa", "a."}, []string{"a"}, []string{"a.", "aa"}},
		{[]string{"", "\xff", "A"}, []string{""}, []string{"A", "\xff"}},
	} {
		if got := Without(x.a, x.b); !slices.Equal(got, x.want) {
			t.Errorf("%q, %q: %q", x.a, x.b, got)
		}
	}
}

// P1.2, P1.3, P1.4: what is passed stays as it is, and results are new memory.

func TestListsArePassedByValue(t *testing.T) {
	for _, given := range [][]string{{"b", "a", "c", "a"}, {"a", "b"}, {"b", "a"}, {"a"}, {"a", "a"}} {
		for name, call := range map[string]func(l []string) []string{
			"Sort":         Sort,
			"Merge, one":   func(l []string) []string { return Merge(l, nil) },
			"Merge, two":   func(l []string) []string { return Merge(nil, l) },
			"Merge, both":  func(l []string) []string { return Merge(l, l) },
			"Without, one": func(l []string) []string { return Without(l, nil) },
			"Without, two": func(l []string) []string { return Without([]string{"z"}, l) },
			"Rising":       func(l []string) []string { Rising(l); return nil },
			"Text":         func(l []string) []string { Text(l); return nil },
		} {
			room := append(slices.Clone(given), "behind", "it")
			l := room[:len(given)]
			got := call(l)
			if !slices.Equal(l, given) || room[len(given)] != "behind" || room[len(given)+1] != "it" {
				t.Errorf("%s of %q changed it: %q", name, given, room)
			}
			kept := slices.Clone(got)
			for i := range room {
				room[i] = "changed"
			}
			if !slices.Equal(got, kept) {
				t.Errorf("%s of %q shares its memory: %q", name, given, got)
			}
		}
	}
}

func TestParsedListsAreNewEachTime(t *testing.T) {
	a, _ := Parse("a b")
	b, _ := Parse("a b")
	a[0] = "x"
	if b[0] != "a" {
		t.Error("shared")
	}
}

// P1.4

func TestText(t *testing.T) {
	for _, x := range []struct {
		l    []string
		want string
	}{
		{nil, "-"}, {[]string{}, "-"}, {[]string{"a"}, "a"}, {[]string{"b", "a"}, "b a"}, {[]string{"a", "a"}, "a a"},
		{[]string{"mds0", "mds0.vmd-1", "x_"}, "mds0 mds0.vmd-1 x_"},
		{[]string{"abcdefghijklmnop", "a-"}, "abcdefghijklmnop a-"},
	} {
		if s, e := Text(x.l); s != x.want || e != api.OK {
			t.Errorf("%q: %q %d", x.l, s, e)
		}
	}
	for _, bad := range append([]string{"a.", "a..b", "1a", ".a", "aB", "abcdefghijklmnopq", "a\n"}, strange...) {
		for _, l := range [][]string{{bad}, {bad, "a"}, {"a", bad}, {"a", bad, "b"}} {
			if s, e := Text(l); s != "" || e != api.ErrHandle {
				t.Errorf("%.60q: %q %d", l, s, e)
			}
		}
	}
}

func TestParse(t *testing.T) {
	for s, want := range map[string][]string{
		"-": nil, "a": {"a"}, "b a": {"b", "a"}, "a a": {"a", "a"}, "a a.b": {"a", "a.b"},
		"abcdefghijklmnop a-": {"abcdefghijklmnop", "a-"},
	} {
		if l, e := Parse(s); !slices.Equal(l, want) || e != api.OK {
			t.Errorf("%q: %q %d", s, l, e)
		}
	}
	for _, s := range []string{"", " ", "  ", "b  a", " a", "a ", "a b ", "- ", " -", "--", "- a", "a -", "a - b", "a.", "a. b", "a a..b", "a\tb", "a\nb", "a\n", "a,b", "A", "a B", "abcdefghijklmnopq", "a abcdefghijklmnopq", "\xff", "a \xff", "a\xc3\xa0b", "a\xc2\xa0b", "a\x00b", strings.Repeat(" ", 1<<20)} {
		if l, e := Parse(s); len(l) != 0 || e != api.ErrHandle {
			t.Errorf("%.60q: %.60q %d", s, l, e)
		}
	}
}

func TestParseALongText(t *testing.T) {
	s := strings.Repeat("mds0.vmd-1 ", 100_000) + "last"
	l, e := Parse(s)
	if e != api.OK || len(l) != 100_001 || l[0] != "mds0.vmd-1" || l[100_000] != "last" {
		t.Errorf("%d handles, %d", len(l), e)
	}
	if l, e := Parse(s + " "); len(l) != 0 || e != api.ErrHandle {
		t.Errorf("%d handles, %d", len(l), e)
	}
}

// P1.5

func TestTextIsParsedBack(t *testing.T) {
	for _, l := range listsOf([]string{"a", "b.c", "abcdefghijklmnop", "z-9_.0"}, 4) {
		s, e := Text(l)
		if e != api.OK {
			t.Errorf("%q: %d", l, e)
		}
		if got, e := Parse(s); !slices.Equal(got, l) || e != api.OK {
			t.Errorf("%q: %q: %q %d", l, s, got, e)
		}
	}
}

func TestParsedListHasTheText(t *testing.T) {
	for _, s := range stringsOf([]string{"a", "7", ".", "-", " ", "\xff"}, 5) {
		l, e := Parse(s)
		want := s == "-" || !slices.ContainsFunc(strings.Split(s, " "), func(h string) bool { return !isHandle(h) })
		if want != (e == api.OK) || !want && (e != api.ErrHandle || len(l) != 0) {
			t.Errorf("%q: %q %d", s, l, e)
		}
		if got, f := Text(l); e == api.OK && (got != s || f != api.OK) {
			t.Errorf("%q: %q: %q %d", s, l, got, f)
		}
	}
}

// P1.6

func TestOrder(t *testing.T) {
	words := append(stringsOf([]string{"a", ".", "\xff"}, 3), strange...)
	for _, a := range words {
		for _, b := range words {
			ab := Compare(a, b)
			if ab != -Compare(b, a) || (ab == 0) != (a == b) {
				t.Errorf("%q, %q: %d, %d", a, b, ab, Compare(b, a))
			}
			for _, c := range words {
				if ab < 0 && Compare(b, c) < 0 && Compare(a, c) >= 0 {
					t.Errorf("%q, %q, %q", a, b, c)
				}
			}
		}
	}
}

// P1.7

func TestLists(t *testing.T) {
	all := listsOf([]string{"", "b", "a", "\xff"}, 3)
	for _, a := range all {
		sorted := Sort(a)
		if !Rising(sorted) || !slices.Equal(sorted, setOf(a)) {
			t.Errorf("%q: %q", a, sorted)
		}
		if Rising(a) != slices.Equal(sorted, a) || !slices.Equal(Sort(sorted), sorted) {
			t.Errorf("%q: %q", a, sorted)
		}
		for _, b := range all {
			both := Merge(a, b)
			if !Rising(both) || !slices.Equal(both, setOf(a, b)) {
				t.Errorf("%q, %q: %q", a, b, both)
			}
			only := slices.DeleteFunc(setOf(a), func(s string) bool { return slices.Contains(b, s) })
			if got := Without(both, b); !Rising(got) || !slices.Equal(got, only) || !slices.Equal(Without(a, b), only) {
				t.Errorf("%q, %q: %q, %q", a, b, got, Without(a, b))
			}
		}
	}
}
