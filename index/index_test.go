package index

import (
	"bytes"
	"maps"
	"math"
	"slices"
	"strings"
	"testing"

	"bedside/api"
)

// names are handles, ascending; some are the beginnings of others.
var names = []string{"a", "a-", "a.1", "a.b", "a.b.c", "a0", "a1", "a10", "a9", "a_", "aa", "aaaaaaaaaaaaaaaa", "ab", "b", "mds0", "mds0.vmd", "mds0.vmd-1", "mds0.vmd-10", "mds0.vmd-2", "mds1", "z", "zzzzzzzzzzzzzzz", "zzzzzzzzzzzzzzzz"}

// strange are strings that are no handles.
var strange = []string{"", "-", ".", ".a", "_", "1", "1a", "A", "aB", "a.", "a..b", "a b", " a", "a ", "a\x00", "a\n", "\x00", "\x7f", "\x80", "\xff", "a\xff", "a\xc3\xa4", "\xc3\xa4", "{", "zz~", "abcdefghijklmno.", "abcdefghijklmnopq", strings.Repeat("z", 1000)}

// probes gives strings of all sorts to ask an index about.
func probes() []string {
	return slices.Concat(names, strange)
}

// beyond holds numbers that are no positions of any index here.
var beyond = []int{-1, -2, math.MinInt, math.MinInt + 1, math.MinInt32, 1 << 20, 1 << 32, math.MaxInt32, math.MaxInt - 1, math.MaxInt}

// pair is a handle with its number, as From enumerates them.
type pair struct {
	h string
	n int
}

func put(t *testing.T, x *Index, h string, n int, want api.Errno) {
	t.Helper()
	if e := x.Put(h, n); e != want {
		t.Fatalf("Put of %.40q, %d: %v, not %v", h, n, e, want)
	}
}

func take(t *testing.T, x *Index, h string, want int, wantErr api.Errno) {
	t.Helper()
	if n, e := x.Take(h); n != want || e != wantErr {
		t.Fatalf("Take of %.40q: %d %v, not %d %v", h, n, e, want, wantErr)
	}
}

// collect gives all that From enumerates.
func collect(x *Index, h string) []pair {
	var l []pair
	for h, n := range x.From(h) {
		l = append(l, pair{h, n})
	}
	return l
}

// plain is an index as the chapter says it, put in order anew for each question.
type plain map[string]int

func (p plain) all() []string {
	return slices.SortedFunc(maps.Keys(p), func(a, b string) int {
		return bytes.Compare([]byte(a), []byte(b))
	})
}

func (p plain) from(s string) []pair {
	var l []pair
	for _, h := range p.all() {
		if bytes.Compare([]byte(h), []byte(s)) >= 0 {
			l = append(l, pair{h, p[h]})
		}
	}
	return l
}

// put is of a handle, and of a number that may be.
func (p plain) put(h string, n int) api.Errno {
	if _, is := p[h]; is {
		return api.ErrTwice
	}
	p[h] = n
	return api.OK
}

func (p plain) take(h string) (int, api.Errno) {
	n, is := p[h]
	if !is {
		return 0, api.ErrNone
	}
	delete(p, h)
	return n, api.OK
}

// both gives an index to which the handles were put, in this order, and the same as a plain one. A number is ten times the place among names.
func both(t *testing.T, handles ...string) (*Index, plain) {
	t.Helper()
	x, p := New(), plain{}
	for _, h := range handles {
		bothPut(t, x, p, h, 10*slices.Index(names, h))
	}
	return x, p
}

func bothPut(t *testing.T, x *Index, p plain, h string, n int) {
	t.Helper()
	put(t, x, h, n, p.put(h, n))
}

func bothTake(t *testing.T, x *Index, p plain, h string) {
	t.Helper()
	n, e := p.take(h)
	take(t, x, h, n, e)
}

// same holds all that the index shows against p, handle by handle, and for what it does not have.
func same(t *testing.T, x *Index, p plain) {
	t.Helper()
	sameRows(t, x, p)
	for _, s := range probes() {
		sameOf(t, x, p, s)
	}
}

// sameRows holds against p what the index has, and P7.5.
func sameRows(t *testing.T, x *Index, p plain) {
	t.Helper()
	want := p.all()
	if got := x.All(); !slices.Equal(got, want) || x.Many() != len(want) {
		t.Fatalf("%d: %q, not %q", x.Many(), got, want)
	}
	for i, h := range want {
		if got, n, is := x.At(i); got != h || n != p[h] || !is {
			t.Fatalf("At of %d: %q %d %v, not %q %d", i, got, n, is, h, p[h])
		}
		if x.Place(h) != i {
			t.Fatalf("Place of %q: %d, not %d", h, x.Place(h), i)
		}
	}
	for _, i := range append([]int{len(want), len(want) + 1}, beyond...) {
		if h, n, is := x.At(i); h != "" || n != 0 || is {
			t.Fatalf("At of %d, of %d: %q %d %v", i, len(want), h, n, is)
		}
	}
}

// sameOf holds against p what the index answers about one string.
func sameOf(t *testing.T, x *Index, p plain, s string) {
	t.Helper()
	want, wantIs := p[s]
	if n, is := x.Find(s); n != want || is != wantIs {
		t.Fatalf("Find of %.40q: %d %v, not %d %v", s, n, is, want, wantIs)
	}
	left := p.from(s)
	if got := x.Place(s); got != len(p)-len(left) {
		t.Fatalf("Place of %.40q: %d, not %d", s, got, len(p)-len(left))
	}
	if got := collect(x, s); !slices.Equal(got, left) {
		t.Fatalf("From %.40q: %v, not %v", s, got, left)
	}
}

// P7.1 to P7.4: an empty index has nothing, whatever it is asked for.
func TestEmptyIndex(t *testing.T) {
	x := New()
	if x == nil {
		t.Fatal("nil")
	}
	same(t, x, plain{})
	same(t, x.Copy(), plain{})
	for _, s := range probes() {
		take(t, x, s, 0, api.ErrNone)
	}
	same(t, x, plain{})
	put(t, x, "a", 1, api.OK)
	take(t, x, "a", 1, api.OK)
	same(t, x, plain{})
}

// P7.1: one index is nothing to another one.
func TestIndexesStandAlone(t *testing.T) {
	x, y := New(), New()
	put(t, x, "a", 1, api.OK)
	same(t, y, plain{})
	put(t, y, "a", 2, api.OK)
	put(t, y, "b", 3, api.OK)
	take(t, y, "a", 2, api.OK)
	same(t, x, plain{"a": 1})
	same(t, y, plain{"b": 3})
}

// P7.1 to P7.3: the example of the chapter.
func TestExample(t *testing.T) {
	x := New()
	put(t, x, "b", 7, api.OK)
	put(t, x, "a", 3, api.OK)
	if l := x.All(); !slices.Equal(l, []string{"a", "b"}) || x.Place("aa") != 1 {
		t.Errorf("%q, %d", l, x.Place("aa"))
	}
	if l := collect(x, "aa"); !slices.Equal(l, []pair{{"b", 7}}) {
		t.Errorf("%v", l)
	}
}

// P7.1 to P7.3, P7.5: handles put in ascending, descending and mixed order stand in theirs, after each Put and each Take.
func TestOrdersOfPut(t *testing.T) {
	down := slices.Clone(names)
	slices.Reverse(down)
	var inward, strewn []string
	for i := range names {
		inward = append(inward, [][]string{names, down}[i%2][i/2])
		strewn = append(strewn, names[i*7%len(names)]) // 7 and the number of names have no common divisor
	}
	for _, order := range [][]string{names, down, inward, strewn} {
		x, p := New(), plain{}
		for i, h := range order {
			bothPut(t, x, p, h, i)
			same(t, x, p)
		}
		if !slices.Equal(x.All(), names) {
			t.Fatalf("%q", x.All())
		}
		for _, h := range strewn {
			bothTake(t, x, p, h)
			same(t, x, p)
		}
	}
}

// P7.1, P7.5: all orders of few handles, some of which are the beginnings of others.
func TestAllOrdersOfFewHandles(t *testing.T) {
	want := []string{"m", "mds0", "mds0.vmd", "mds0.vmd-1", "mds1"}
	var goOn func(x *Index, left []string)
	goOn = func(x *Index, left []string) {
		if l := x.All(); len(left) == 0 && !slices.Equal(l, want) {
			t.Fatalf("%q", l)
		}
		for i, h := range left {
			y := x.Copy()
			put(t, y, h, len(left), api.OK)
			goOn(y, slices.Concat(left[:i], left[i+1:]))
		}
	}
	goOn(New(), want)
}

// P7.1, P7.2: a number is 0 or more, and several handles may have the same one.
func TestNumbers(t *testing.T) {
	x, p := New(), plain{}
	for i, n := range []int{0, 1, math.MaxInt, math.MaxInt - 1, 0, 1, math.MaxInt32, 1 << 32, 7, 7, 7} {
		bothPut(t, x, p, names[i], n)
	}
	same(t, x, p)
	for _, h := range p.all() {
		bothTake(t, x, p, h)
	}
	same(t, x, plain{})
}

// P7.1: what is no handle is not put, and nothing is changed by it; 16 bytes are a handle, and 17 are none.
func TestPutOfNoHandle(t *testing.T) {
	x, p := both(t, "b", "a")
	for _, s := range strange {
		for _, n := range []int{0, 5, math.MaxInt} {
			put(t, x, s, n, api.ErrHandle)
			put(t, New(), s, n, api.ErrHandle)
		}
	}
	same(t, x, p)
	bothPut(t, x, p, strings.Repeat("z", 16), 22)
	put(t, x, strings.Repeat("z", 17), 23, api.ErrHandle)
	same(t, x, p)
}

// P7.1
func TestPutOfNumbersBelowZero(t *testing.T) {
	x, p := both(t, "b")
	for _, n := range []int{-1, -2, math.MinInt32, math.MinInt + 1, math.MinInt} {
		for _, h := range []string{"a", "b", "z"} {
			put(t, x, h, n, api.ErrArg)
			put(t, New(), h, n, api.ErrArg)
		}
	}
	same(t, x, p)
}

// P7.1: a handle that is there keeps its number; once it was taken, it may be put with another one.
func TestPutTwice(t *testing.T) {
	x, p := both(t, "z", "a", "mds0", "mds0.vmd")
	for h, n := range p {
		for _, m := range []int{0, n, n + 1, math.MaxInt} {
			put(t, x, h, m, api.ErrTwice)
		}
	}
	same(t, x, p)
	for _, h := range []string{"mds0", "a", "z", "mds0.vmd"} {
		bothTake(t, x, p, h)
		bothPut(t, x, p, h, 99)
		put(t, x, h, 98, api.ErrTwice)
		same(t, x, p)
	}
}

// P7.1: of several faults the first one that the promise names.
func TestFirstErrorOfPut(t *testing.T) {
	x, p := both(t, "a")
	for _, c := range []struct {
		h    string
		n    int
		want api.Errno
	}{{"", -1, api.ErrHandle}, {"A", math.MinInt, api.ErrHandle}, {"a.", -1, api.ErrHandle}, {"a", -1, api.ErrArg}, {"b", -1, api.ErrArg}, {"a", 0, api.ErrTwice}} {
		put(t, x, c.h, c.n, c.want)
		put(t, nil, c.h, c.n, api.ErrNil)
		put(t, &Index{}, c.h, c.n, api.ErrNil)
	}
	same(t, x, p)
}

// P7.1: what the index does not have is not taken, and nothing is changed by it.
func TestTakeOfWhatIsNotThere(t *testing.T) {
	x, p := both(t, "a-", "aa", "mds0.vmd", "z")
	for _, s := range probes() {
		if _, is := p[s]; !is {
			take(t, x, s, 0, api.ErrNone)
		}
	}
	same(t, x, p)
}

// P7.1: each one of many is taken once, be it the first, the last or between.
func TestTakeOfEach(t *testing.T) {
	for _, h := range names {
		x, p := both(t, names...)
		bothTake(t, x, p, h)
		same(t, x, p)
		take(t, x, h, 0, api.ErrNone)
		same(t, x, p)
	}
}

// P7.2, P7.3, P7.7: strings that are there, that lie between two, that are less than all or above all, and that are no handles.
func TestPlaceAndFrom(t *testing.T) {
	x := New()
	want := []pair{{"b", 13}, {"mds0", 0}, {"mds0.vmd", 7}, {"mds1", 13}}
	for _, i := range []int{2, 1, 0, 3} {
		put(t, x, want[i].h, want[i].n, api.OK)
	}
	for place, l := range [][]string{
		{"", "a", "azzz", "A", "9", " ", "\x00", "aaaaaaaaaaaaaaaaaaaaaaaa", "b"},
		{"b\x00", "b.", "b-", "b0", "bb", "m", "mds", "mds.", "mds/", "mds0"},
		{"mds0\x00", "mds0 ", "mds0-", "mds0.", "mds0.vmc", "mds0.vm", "mds0.vmd"},
		{"mds0.vmd\x00", "mds0.vmd-1", "mds0.vmd.vmd.vmd.vmd", "mds00", "mds0a", "mds0\xff", "mds1"},
		{"mds1\x00", "mds10", "mm", "n", "z", "{", "\x7f", "\xc3\xa4", "\xff", strings.Repeat("n", 1<<16)},
	} {
		for _, s := range l {
			if got := x.Place(s); got != place {
				t.Errorf("Place of %.40q: %d, not %d", s, got, place)
			}
			if got := collect(x, s); !slices.Equal(got, want[place:]) {
				t.Errorf("From %.40q: %v, not %v", s, got, want[place:])
			}
		}
	}
}

// P7.2: the first and the last position, and those next to them on the other side.
func TestAt(t *testing.T) {
	for many := range len(names) {
		x, _ := both(t, names[:many]...)
		for i := -2; i < many+2; i++ {
			h, n, is := x.At(i)
			if i < 0 || i >= many {
				if h != "" || n != 0 || is {
					t.Errorf("%d of %d: %q %d %v", i, many, h, n, is)
				}
			} else if h != names[i] || n != 10*i || !is {
				t.Errorf("%d of %d: %q %d %v", i, many, h, n, is)
			}
		}
	}
}

// P7.3: what is put and taken after From was called is not enumerated, nor is it missing; another call sees it.
func TestFromIsOfTheMomentOfItsCall(t *testing.T) {
	x, p := both(t, "b", "mds0", "z")
	whole, part, behind := x.From(""), x.From("c"), x.From("{")
	wantWhole, wantPart := p.from(""), p.from("c")
	bothTake(t, x, p, "mds0")
	bothPut(t, x, p, "mds0", 99)
	bothPut(t, x, p, "a", 1)
	bothPut(t, x, p, "mds0.vmd", 2)
	bothTake(t, x, p, "z")
	for range 2 { // and the same each time
		var l, m []pair
		for h, n := range whole {
			l = append(l, pair{h, n})
		}
		for h, n := range part {
			m = append(m, pair{h, n})
		}
		if !slices.Equal(l, wantWhole) || !slices.Equal(m, wantPart) {
			t.Fatalf("%v, %v", l, m)
		}
		for h := range behind {
			t.Fatalf("%q", h)
		}
		same(t, x, p)
		for _, h := range x.All() {
			bothTake(t, x, p, h)
		}
	}
}

// P7.3: the index is changed from within the loop, before the handle, at it and behind it.
func TestFromWhileTheIndexChanges(t *testing.T) {
	x, p := both(t, "a", "a.b", "b", "mds0", "z")
	want := p.from("a.b")
	var got []pair
	for h, n := range x.From("a.b") {
		got = append(got, pair{h, n})
		bothTake(t, x, p, h)
		bothPut(t, x, p, h+"0", n+1)
		if h == "a.b" {
			bothTake(t, x, p, "a")
			bothTake(t, x, p, "mds0")
			bothPut(t, x, p, "mds0", 77)
		}
		same(t, x, p)
	}
	if !slices.Equal(got, want) {
		t.Errorf("%v, not %v", got, want)
	}
	if l := x.All(); !slices.Equal(l, []string{"a.b0", "b0", "mds00", "z0"}) {
		t.Errorf("%q", l)
	}
}

// P7.3: the index is emptied in the first turn of the loop.
func TestFromOfAnIndexThatIsEmptied(t *testing.T) {
	x, p := both(t, names...)
	want := p.from("a1")
	var got []pair
	for h, n := range x.From("a1") {
		got = append(got, pair{h, n})
		for _, other := range x.All() {
			bothTake(t, x, p, other)
		}
	}
	if !slices.Equal(got, want) || x.Many() != 0 {
		t.Errorf("%v, %d", got, x.Many())
	}
}

// P7.3: a loop that is left is not gone on with, and leaves index and enumeration as they were.
func TestFromIsLeftEarly(t *testing.T) {
	x, p := both(t, names...)
	seq := x.From("a.b")
	want := p.from("a.b")
	for turns := 1; turns <= len(want); turns++ {
		var got []pair
		for h, n := range seq {
			got = append(got, pair{h, n})
			if len(got) == turns {
				break
			}
		}
		if !slices.Equal(got, want[:turns]) {
			t.Fatalf("%d turns: %v", turns, got)
		}
	}
	calls := 0
	seq(func(string, int) bool {
		calls++
		return false
	})
	if calls != 1 {
		t.Errorf("%d calls", calls)
	}
	same(t, x, p)
}

// P7.3: enumerations within one another do not touch each other.
func TestFromWithinFrom(t *testing.T) {
	x, p := both(t, "z", "b", "a")
	seq := x.From("")
	var got []string
	for h := range seq {
		for g := range seq {
			for f := range x.From(g) {
				got = append(got, h+g+f)
			}
		}
	}
	want := []string{"aaa", "aab", "aaz", "abb", "abz", "azz", "baa", "bab", "baz", "bbb", "bbz", "bzz", "zaa", "zab", "zaz", "zbb", "zbz", "zzz"}
	if !slices.Equal(got, want) {
		t.Errorf("%q", got)
	}
	same(t, x, p)
}

// P7.3: the row belongs to who asked for it.
func TestAllIsANewRow(t *testing.T) {
	x, p := both(t, "mds0", "b", "z", "a")
	first, second := x.All(), x.All()
	for i := range first {
		first[i] = "changed"
	}
	_ = append(first[:1], "q", "r", "s")
	if !slices.Equal(second, []string{"a", "b", "mds0", "z"}) {
		t.Errorf("%q", second)
	}
	same(t, x, p)
	bothTake(t, x, p, "a")
	bothPut(t, x, p, "ab", 5)
	if !slices.Equal(second, []string{"a", "b", "mds0", "z"}) {
		t.Errorf("%q", second)
	}
	same(t, x, p)
}

// P7.2, P7.3: calls that only ask change nothing.
func TestAskingChangesNothing(t *testing.T) {
	x, p := both(t, "mds1", "mds0", "a")
	for range 3 {
		same(t, x, p)
		x.Copy()
	}
}

// P7.4: a copy goes on alone, and so does what it was made of, whatever was put and taken before.
func TestCopyGoesOnAlone(t *testing.T) {
	for many := range len(names) {
		x, p := both(t, names[:many]...)
		if many > 1 { // there is room behind the rows
			bothTake(t, x, p, names[many-1])
		}
		y, q := x.Copy(), maps.Clone(p)
		if y == nil || y == x {
			t.Fatalf("%p of %p", y, x)
		}
		same(t, y, q)
		bothPut(t, x, p, "m", 1)
		bothPut(t, x, p, "zz", 2)
		bothTake(t, x, p, "a")
		sameBoth(t, x, p, y, q)
		bothPut(t, y, q, "zz", 3)
		bothPut(t, y, q, "a.c", 4)
		bothTake(t, y, q, "a-")
		sameBoth(t, x, p, y, q)
		bothPut(t, x, p, "a", 5)
		bothTake(t, y, q, "zz")
		bothTake(t, x, p, "m")
		sameBoth(t, x, p, y, q)
	}
}

func sameBoth(t *testing.T, x *Index, p plain, y *Index, q plain) {
	t.Helper()
	same(t, x, p)
	same(t, y, q)
}

// P7.3, P7.4: a copy of a copy; and an enumeration of what a copy was made of.
func TestCopyOfACopy(t *testing.T) {
	x, p := both(t, "b", "a", "z")
	y := x.Copy()
	z := y.Copy()
	seq := y.From("b")
	put(t, y, "m", 1, api.OK)
	take(t, y, "z", 200, api.OK)
	same(t, x, p)
	same(t, z, p)
	var got []pair
	for h, n := range seq {
		got = append(got, pair{h, n})
	}
	if !slices.Equal(got, p.from("b")) {
		t.Errorf("%v", got)
	}
}

// unmade gives Indexes that New and Copy did not return.
func unmade(t *testing.T) []*Index {
	x, _ := both(t, "b", "a", "z")
	fromNew, fromCopy := *x, *x.Copy()
	again := fromNew
	return []*Index{nil, {}, new(Index), &fromNew, &fromCopy, &again}
}

// answersNothing holds what such an Index answers.
func answersNothing(t *testing.T, x *Index) {
	t.Helper()
	for _, s := range probes() {
		put(t, x, s, 1, api.ErrNil)
		put(t, x, s, -1, api.ErrNil)
		take(t, x, s, 0, api.ErrNil)
		sameOf(t, x, plain{}, s)
	}
	sameRows(t, x, plain{})
}

// P7.1 to P7.4: nothing is to be had of them, nor of their copies, whatever was called before.
func TestIndexesThatNewAndCopyDidNotReturn(t *testing.T) {
	for i, x := range unmade(t) {
		answersNothing(t, x)
		y := x.Copy()
		if (x == nil) != (y == nil) || x != nil && x == y {
			t.Errorf("%d: %p of %p", i, y, x)
		}
		answersNothing(t, y)
		answersNothing(t, x)
	}
}

// P7.4: an assignment is no way to the handles of an index.
func TestAssignedIndexLeavesTheOtherAsItIs(t *testing.T) {
	x, p := both(t, "b", "a", "z")
	y := *x
	y.Put("m", 1)
	y.Take("a")
	y.Copy().Take("b")
	same(t, x, p)
	bothPut(t, x, p, "m", 2)
	bothTake(t, x, p, "a")
	same(t, x, p)
}

// P7.6: whatever is there, Put followed by Take of one handle leaves all as it was; and Take followed by Put.
func TestPutAndTakeOfOneHandle(t *testing.T) {
	for many := range len(names) + 1 {
		x, p := both(t, names[:many]...)
		for i, h := range names {
			if i < many {
				take(t, x, h, 10*i, api.OK)
				put(t, x, h, 10*i, api.OK)
			} else {
				put(t, x, h, i, api.OK)
				take(t, x, h, i, api.OK)
			}
			sameRows(t, x, p)
		}
		same(t, x, p)
	}
}

// P7.6: what is done with one handle leaves the others their numbers.
func TestOperationsOnOneHandleLeaveTheOthers(t *testing.T) {
	for _, h := range names {
		x, p := both(t, names...)
		others := func() {
			t.Helper()
			for g, n := range p {
				if got, is := x.Find(g); g != h && (got != n || !is) {
					t.Fatalf("%q, with %q: %d %v", g, h, got, is)
				}
			}
		}
		put(t, x, h, 5, api.ErrTwice)
		others()
		x.Take(h)
		others()
		take(t, x, h, 0, api.ErrNone)
		others()
		put(t, x, h, -1, api.ErrArg)
		others()
		put(t, x, h, 12345, api.OK)
		others()
		if n, is := x.Find(h); n != 12345 || !is {
			t.Fatalf("%q: %d %v", h, n, is)
		}
	}
}

// P7.7: the empty string is less than all handles; and what begins with a handle of the index ends with the last one.
func TestFromOfEachHandle(t *testing.T) {
	x, p := both(t, names...)
	if l := collect(x, ""); !slices.Equal(l, p.from("")) || len(l) != x.Many() {
		t.Errorf("%v", l)
	}
	for i, h := range names {
		l := collect(x, h)
		if len(l) != len(names)-i || l[0] != (pair{h, 10 * i}) || l[len(l)-1].h != names[len(names)-1] {
			t.Errorf("%q: %v", h, l)
		}
	}
}

// P7.1 to P7.7: all there is to do with few handles, step by step.
func TestAllShortSequences(t *testing.T) {
	few := []string{"a", "a.b", "ab", "b"}
	const steps = 5
	choices := 2 * len(few) // Put or Take
	sequences := 1
	for range steps {
		sequences *= choices
	}
	for s := range sequences {
		x, p := New(), plain{}
		for i := range steps {
			if h := few[s%choices/2]; s%2 == 0 {
				bothPut(t, x, p, h, i)
			} else {
				bothTake(t, x, p, h)
			}
			s /= choices
		}
		sameRows(t, x, p)
		for _, h := range append(few, "", "aa", "c") {
			sameOf(t, x, p, h)
		}
	}
}

// P7.1 to P7.7: long ways, with copies of which one goes on; the order of steps is the same in each run.
func TestLongSequences(t *testing.T) {
	state := uint32(1)
	next := func(n int) int {
		state = state*1664525 + 1013904223
		return int(state>>8) % n
	}
	x, p := New(), plain{}
	for i := range 4000 {
		h := names[next(len(names))]
		// Puts prevail in one half of the time, and Takes in the other one, so that the index gets full and empty.
		if next(4) < 1+i/100%2*2 {
			bothTake(t, x, p, h)
		} else {
			bothPut(t, x, p, h, next(1000))
		}
		if next(20) == 0 {
			left := x
			x = x.Copy()
			left.Take(h)
			left.Put(names[next(len(names))], 1)
		}
		sameRows(t, x, p)
		sameOf(t, x, p, probes()[next(len(names)+len(strange))])
	}
}

// P7.1 to P7.3: many more handles than a tree has.
func TestManyHandles(t *testing.T) {
	x := New()
	const many = 26 * 26 * 26
	name := func(i int) string {
		return string([]byte{'a' + byte(i/26/26), 'a' + byte(i/26%26), 'a' + byte(i%26)})
	}
	for i := range many {
		j := i * 7919 % many
		put(t, x, name(j), j, api.OK)
	}
	i := 0
	for h, n := range x.From("") {
		if h != name(i) || n != i || x.Place(h) != i {
			t.Fatalf("%d: %q %d, at %d", i, h, n, x.Place(h))
		}
		i++
	}
	if i != many || x.Many() != many || len(x.All()) != many {
		t.Errorf("%d of %d", i, many)
	}
	for i := range many {
		j := i * 7919 % many
		take(t, x, name(j), j, api.OK)
	}
	if x.Many() != 0 {
		t.Errorf("%d left", x.Many())
	}
}
