package tree

import (
	"math"
	"slices"
	"strings"
	"testing"

	"bedside/api"
)

// names are handles, ascending; some are the beginnings of others.
var names = []string{"a", "a-", "a.b", "a0", "aa", "aaaaaaaaaaaaaaaa", "b", "c", "d", "e", "mds0", "mds0.vmd-1", "v", "z", "zzzzzzzzzzzzzzzz"}

// strange are strings that are no handles.
var strange = []string{"", "-", ".", ".a", "_", "1", "1a", "A", "aB", "a.", "a..b", "a b", " a", "a ", "a\x00", "a\n", "\x00", "\x80", "\xff", "a\xff", "\xc3\xa4", "{", "abcdefghijklmno.", "abcdefghijklmnopq", strings.Repeat("z", 1000)}

// probes gives strings of all sorts to ask a tree about: what the plain tree names, and others.
func probes(p plain) []string {
	l := slices.Concat(names, strange, []string{"nobody", "zy"})
	for _, o := range p {
		l = append(l, o.Handle, o.Parent)
	}
	slices.Sort(l)
	return slices.Compact(l)
}

// under gives an object with that handle and that Parent, and something else that tells it from others.
func under(h, parent string) api.Object {
	return api.Object{Handle: h, Parent: parent, Kind: api.KdMetric, Lo: -int64(len(h)), Hi: int64(len(parent)), Ref: "ref-" + h}
}

// fresh gives a new tree of n slots.
func fresh(t *testing.T, n int) *Tree {
	t.Helper()
	x, e := New(n)
	if x == nil || e != api.OK {
		t.Fatalf("New of %d: %v %v", n, x, e)
	}
	return x
}

func add(t *testing.T, x *Tree, o api.Object, want api.Errno) {
	t.Helper()
	if e := x.Add(o); e != want {
		t.Fatalf("Add of %.40q under %.40q: %v, not %v", o.Handle, o.Parent, e, want)
	}
}

func set(t *testing.T, x *Tree, o api.Object, want api.Errno) {
	t.Helper()
	if e := x.Set(o); e != want {
		t.Fatalf("Set of %.40q under %.40q: %v, not %v", o.Handle, o.Parent, e, want)
	}
}

func remove(t *testing.T, x *Tree, h string, want api.Errno) {
	t.Helper()
	if e := x.Remove(h); e != want {
		t.Fatalf("Remove of %.40q: %v, not %v", h, e, want)
	}
}

// handles gives the handles of objects.
func handles(l []api.Object) []string {
	var out []string
	for _, o := range l {
		out = append(out, o.Handle)
	}
	return out
}

// plain is a tree as the chapter says it: objects by slots, those without a Handle being free, and gone through anew for each question.
type plain []api.Object

func (p plain) slot(h string) (int, bool) {
	for k, o := range p {
		if h != "" && o.Handle == h {
			return k, true
		}
	}
	return 0, false
}

// add is of an object whose Handle is a handle.
func (p plain) add(o api.Object) api.Errno {
	if _, is := p.slot(o.Handle); is {
		return api.ErrTwice
	}
	for k := range p {
		if p[k].Handle == "" {
			p[k] = o
			return api.OK
		}
	}
	return api.ErrFull
}

func (p plain) set(o api.Object) api.Errno {
	k, is := p.slot(o.Handle)
	if !is {
		return api.ErrNone
	}
	p[k] = o
	return api.OK
}

func (p plain) remove(h string) api.Errno {
	k, is := p.slot(h)
	if !is {
		return api.ErrNone
	}
	p[k] = api.Object{}
	return api.OK
}

func (p plain) all() []api.Object {
	var l []api.Object
	for _, o := range p {
		if o.Handle != "" {
			l = append(l, o)
		}
	}
	slices.SortFunc(l, func(a, b api.Object) int { return strings.Compare(a.Handle, b.Handle) })
	return l
}

func (p plain) kids(h string) []string {
	var l []string
	for _, o := range p.all() {
		if o.Parent == h {
			l = append(l, o.Handle)
		}
	}
	return l
}

func (p plain) above(h string) []string {
	k, is := p.slot(h)
	var l []string
	for is {
		h = p[k].Parent
		k, is = p.slot(h)
		if slices.Contains(l, h) {
			return l
		}
		if is {
			l = append(l, h)
		}
	}
	return l
}

// way gives the handles from the top down to that of the object, and nothing if there is no top.
func (p plain) way(o api.Object) []string {
	l := append([]string{o.Handle}, p.above(o.Handle)...)
	last, _ := p.slot(l[len(l)-1])
	if _, is := p.slot(p[last].Parent); is {
		return nil
	}
	slices.Reverse(l)
	return l
}

// walk puts the objects in the order of their ways, in which each stands before all that is below it.
func (p plain) walk() []api.Object {
	l := slices.DeleteFunc(p.all(), func(o api.Object) bool { return p.way(o) == nil })
	slices.SortFunc(l, func(a, b api.Object) int { return slices.Compare(p.way(a), p.way(b)) })
	return l
}

// both gives a tree of n slots to which the objects were added, in this order, and the same as a plain one.
func both(t *testing.T, n int, objects ...api.Object) (*Tree, plain) {
	t.Helper()
	x, p := fresh(t, n), make(plain, n)
	for _, o := range objects {
		bothAdd(t, x, p, o)
	}
	return x, p
}

func bothAdd(t *testing.T, x *Tree, p plain, o api.Object) {
	t.Helper()
	add(t, x, o, p.add(o))
}

func bothSet(t *testing.T, x *Tree, p plain, o api.Object) {
	t.Helper()
	set(t, x, o, p.set(o))
}

func bothRemove(t *testing.T, x *Tree, p plain, h string) {
	t.Helper()
	remove(t, x, h, p.remove(h))
}

// same holds all that the tree shows against p, handle by handle, and for what it does not have.
func same(t *testing.T, x *Tree, p plain) {
	t.Helper()
	sameRows(t, x, p)
	for _, s := range probes(p) {
		sameOf(t, x, p, s)
	}
	consistent(t, x)
}

func sameRows(t *testing.T, x *Tree, p plain) {
	t.Helper()
	if x.Slots() != len(p) || x.Many() != len(p.all()) {
		t.Fatalf("%d in %d slots, not %d in %d", x.Many(), x.Slots(), len(p.all()), len(p))
	}
	if got, want := x.All(), p.all(); !slices.Equal(got, want) {
		t.Fatalf("All: %v, not %v", got, want)
	}
	if got, want := x.Walk(), p.walk(); !slices.Equal(got, want) {
		t.Fatalf("Walk: %v, not %v", got, want)
	}
}

func sameOf(t *testing.T, x *Tree, p plain, s string) {
	t.Helper()
	k, is := p.slot(s)
	var o api.Object
	if is {
		o = p[k]
	}
	if got, found := x.Slot(s); got != k || found != is {
		t.Fatalf("Slot of %.40q: %d %v, not %d %v", s, got, found, k, is)
	}
	if got, found := x.At(s); got != o || found != is {
		t.Fatalf("At of %.40q: %v %v, not %v %v", s, got, found, o, is)
	}
	if got, want := x.Kids(s), p.kids(s); !slices.Equal(got, want) {
		t.Fatalf("Kids of %.40q: %q, not %q", s, got, want)
	}
	if got, want := x.Above(s), p.above(s); !slices.Equal(got, want) {
		t.Fatalf("Above of %.40q: %q, not %q", s, got, want)
	}
}

// consistent holds the tree against P8.6, P8.7 and P8.8, by what it says of itself alone.
func consistent(t *testing.T, x *Tree) {
	t.Helper()
	inSlots(t, x)
	walked(t, x)
	kidsAndAbove(t, x)
}

func inSlots(t *testing.T, x *Tree) {
	t.Helper()
	seen := make([]bool, x.Slots())
	for _, o := range x.All() {
		k, is := x.Slot(o.Handle)
		if !is || k < 0 || k >= len(seen) || seen[k] {
			t.Fatalf("%q in slot %d, %v", o.Handle, k, is)
		}
		seen[k] = true
	}
	if n := len(x.All()); n != x.Many() || n > x.Slots() {
		t.Fatalf("%d objects, %d of %d", n, x.Many(), x.Slots())
	}
}

func walked(t *testing.T, x *Tree) {
	t.Helper()
	l := x.Walk()
	seen := map[string]bool{}
	for _, o := range l {
		at, is := x.At(o.Handle)
		_, has := x.At(o.Parent)
		if at != o || !is || seen[o.Handle] || has && !seen[o.Parent] {
			t.Fatalf("%q under %q: %q", o.Handle, o.Parent, handles(l))
		}
		seen[o.Handle] = true
	}
	inCycle := false
	for _, o := range x.All() {
		inCycle = inCycle || slices.Contains(x.Above(o.Handle), o.Handle)
	}
	if !inCycle && len(l) != x.Many() {
		t.Fatalf("%q of %d", handles(l), x.Many())
	}
}

func kidsAndAbove(t *testing.T, x *Tree) {
	t.Helper()
	all := x.All()
	rows := []string{"", "nobody"}
	for _, o := range all {
		rows = append(rows, o.Handle, o.Parent)
	}
	for _, o := range all {
		for _, h := range rows {
			if slices.Contains(x.Kids(h), o.Handle) != (h == o.Parent) {
				t.Fatalf("%q under %q: kids of %q: %q", o.Handle, o.Parent, h, x.Kids(h))
			}
		}
		// Each is listed once, also where a cycle comes round to it.
		var want []string
		if _, has := x.At(o.Parent); has {
			for _, h := range append([]string{o.Parent}, x.Above(o.Parent)...) {
				if !slices.Contains(want, h) {
					want = append(want, h)
				}
			}
		}
		if got := x.Above(o.Handle); !slices.Equal(got, want) {
			t.Fatalf("Above of %q: %q, not %q", o.Handle, got, want)
		}
	}
}

// orders gives all orders of the objects.
func orders(l []api.Object) [][]api.Object {
	if len(l) == 0 {
		return [][]api.Object{nil}
	}
	var out [][]api.Object
	for i := range l {
		rest := slices.Concat(l[:i], l[i+1:])
		for _, o := range orders(rest) {
			out = append(out, append([]api.Object{l[i]}, o...))
		}
	}
	return out
}

// numbered gives the handle of a number from 0 to 675; a less number has a less one.
func numbered(i int) string {
	return string([]byte{'a' + byte(i/26), 'a' + byte(i%26)})
}

// chain gives n objects, each under the one before; the first one is under parent.
func chain(n int, parent string) []api.Object {
	var l []api.Object
	for i := range n {
		l = append(l, under(numbered(i), parent))
		parent = numbered(i)
	}
	return l
}

// P8.1: each number of slots that may be; without objects there is nothing to be had.
func TestNew(t *testing.T) {
	for n := 1; n <= api.MaxSlots; n++ {
		same(t, fresh(t, n), make(plain, n))
	}
}

// P8.1
func TestNewOfWrongNumbers(t *testing.T) {
	for _, n := range []int{0, -1, -2, -64, api.MaxSlots + 1, 2 * api.MaxSlots, 1 << 32, 1<<32 + 1, math.MinInt32, math.MaxInt32, math.MinInt, math.MinInt + 1, math.MaxInt - 1, math.MaxInt} {
		if x, e := New(n); x != nil || e != api.ErrArg {
			t.Errorf("%d: %v %v", n, x, e)
		}
	}
}

// P8.1: the slots stay as many, whatever becomes of the objects.
func TestSlotsStay(t *testing.T) {
	x := fresh(t, 2)
	add(t, x, under("a", ""), api.OK)
	add(t, x, under("b", "a"), api.OK)
	add(t, x, under("c", "a"), api.ErrFull)
	remove(t, x, "a", api.OK)
	if x.Slots() != 2 || x.Many() != 1 {
		t.Errorf("%d in %d", x.Many(), x.Slots())
	}
}

// P8.1: one tree is nothing to another one.
func TestTreesStandAlone(t *testing.T) {
	x, p := both(t, 3, under("a", ""), under("b", "a"))
	y, q := both(t, 3, under("a", "b"))
	bothAdd(t, x, p, under("c", "a"))
	bothRemove(t, y, q, "a")
	bothAdd(t, y, q, under("d", "a"))
	bothSet(t, x, p, under("b", "c"))
	same(t, x, p)
	same(t, y, q)
}

// P8.2, P8.4: the example of the chapter.
func TestExample(t *testing.T) {
	x, p := both(t, 4, under("d", ""), under("v", "d"), under("a", "d"), under("c", "v"))
	if l := handles(x.Walk()); !slices.Equal(l, []string{"d", "a", "v", "c"}) {
		t.Errorf("Walk: %q", l)
	}
	if l := x.Kids("d"); !slices.Equal(l, []string{"a", "v"}) {
		t.Errorf("Kids: %q", l)
	}
	if l := x.Above("c"); !slices.Equal(l, []string{"v", "d"}) {
		t.Errorf("Above: %q", l)
	}
	add(t, x, under("d", "a"), api.ErrTwice)
	same(t, x, p)
}

// P8.2, P8.3, P8.4, P8.6: slots go by the order of coming, and all else by handles.
func TestAddInAllOrders(t *testing.T) {
	l := []api.Object{under("a", "c"), under("a-", "nobody"), under("b", "d"), under("c", "d"), under("d", "")}
	for _, order := range orders(l) {
		x, p := both(t, len(l)+1)
		for k, o := range order {
			bothAdd(t, x, p, o)
			if got, is := x.Slot(o.Handle); got != k || !is {
				t.Fatalf("%q: slot %d %v, not %d", o.Handle, got, is, k)
			}
			sameRows(t, x, p)
		}
		same(t, x, p)
		if w := handles(x.Walk()); !slices.Equal(w, []string{"a-", "d", "b", "c", "a"}) {
			t.Fatalf("%q", w)
		}
	}
}

// P8.2: the first error that applies, for each that can apply at once, and nothing changes.
func TestAddErrors(t *testing.T) {
	x, p := both(t, 2, under("a", ""), under("b", "a"))
	for _, s := range strange { // into a full tree, too
		add(t, x, under(s, ""), api.ErrHandle)
		add(t, x, under(s, s), api.ErrHandle)
		same(t, x, p)
	}
	add(t, x, under("a", ""), api.ErrTwice) // into a full tree
	add(t, x, under("b", "b"), api.ErrTwice)
	add(t, x, under("c", ""), api.ErrFull)
	add(t, x, under("c", "A"), api.ErrFull)
	same(t, x, p)
	bothRemove(t, x, p, "a")
	add(t, x, under("b", ""), api.ErrTwice) // and into one that is not
	add(t, x, api.Object{}, api.ErrHandle)
	same(t, x, p)
	bothAdd(t, x, p, under("c", "b"))
	same(t, x, p)
}

// P8.2: what is refused takes no slot.
func TestRefusedObjectsTakeNoSlot(t *testing.T) {
	x, p := both(t, 3, under("b", ""))
	for range 5 {
		add(t, x, under("b", "z"), api.ErrTwice)
		add(t, x, under("B", "z"), api.ErrHandle)
		set(t, x, under("c", "b"), api.ErrNone)
	}
	bothAdd(t, x, p, under("a", "b"))
	if k, is := x.Slot("a"); k != 1 || !is {
		t.Errorf("%d %v", k, is)
	}
	same(t, x, p)
}

// odd gives an object with that handle, and with all other fields as they can't be.
func odd(h, parent string) api.Object {
	return api.Object{Handle: h, Kind: 255, Parent: parent, Type: 255, Ref: "\xff no handle", Lo: math.MaxInt64, Hi: math.MinInt64, Digits: 255, On: true, Has: true, Value: math.MinInt64, Low: math.MaxInt64, High: math.MinInt64, Assoc: 255}
}

// P8.2, P8.3: only the Handle must be a handle; all fields stay as they are.
func TestObjectsThatAreNotWell(t *testing.T) {
	for _, parent := range strange {
		x, p := both(t, 4, odd("b", parent), api.Object{Handle: "a"}, odd("c", "b"))
		same(t, x, p)
		if o, is := x.At("c"); o != odd("c", "b") || !is {
			t.Fatalf("%v %v", o, is)
		}
		bothSet(t, x, p, odd("a", parent))
		bothSet(t, x, p, api.Object{Handle: "b"})
		same(t, x, p)
	}
}

// P8.2, P8.6: each handle that may be is one for the tree.
func TestAddOfEachSortOfHandle(t *testing.T) {
	x, p := both(t, len(names))
	for i, h := range names {
		bothAdd(t, x, p, under(h, names[i/2]))
		same(t, x, p)
	}
	for _, h := range names {
		bothRemove(t, x, p, h)
		same(t, x, p)
	}
}

// P8.2, P8.6: one slot.
func TestOneSlot(t *testing.T) {
	x, p := both(t, 1)
	for _, h := range []string{"b", "a", "c"} {
		bothAdd(t, x, p, under(h, ""))
		add(t, x, under("d", h), api.ErrFull)
		same(t, x, p)
		bothSet(t, x, p, under(h, "b"))
		same(t, x, p)
		bothRemove(t, x, p, h)
		same(t, x, p)
	}
}

// P8.2, P8.6: as many slots as there may be; each of them becomes free, and is the least free one.
func TestMostSlots(t *testing.T) {
	x, p := both(t, api.MaxSlots)
	for i := range api.MaxSlots {
		bothAdd(t, x, p, under(numbered(i*37%api.MaxSlots), numbered(i*11%api.MaxSlots)))
		sameRows(t, x, p)
	}
	same(t, x, p)
	for i := range api.MaxSlots {
		add(t, x, under("zz", ""), api.ErrFull)
		k, _ := x.Slot(numbered(i))
		bothRemove(t, x, p, numbered(i))
		bothAdd(t, x, p, under("n"+numbered(i), numbered(i)))
		if got, is := x.Slot("n" + numbered(i)); got != k || !is {
			t.Fatalf("%d %v, not %d", got, is, k)
		}
		sameRows(t, x, p)
	}
	same(t, x, p)
}

// P8.2, P8.6: whichever two are removed, in whichever order, their slots are taken again, the lesser one first.
func TestLeastFreeSlotAfterRemove(t *testing.T) {
	const n = 6
	for i := range n {
		for j := range n {
			if i == j {
				continue
			}
			x, p := both(t, n, chain(n, "")...)
			bothRemove(t, x, p, numbered(i))
			bothRemove(t, x, p, numbered(j))
			bothAdd(t, x, p, under("z1", ""))
			bothAdd(t, x, p, under("z0", "z1"))
			first, _ := x.Slot("z1")
			second, _ := x.Slot("z0")
			if first != min(i, j) || second != max(i, j) {
				t.Fatalf("%d and %d: %d, %d", i, j, first, second)
			}
			same(t, x, p)
		}
	}
}

// P8.2, P8.4, P8.8: an object goes from one row of kids to another one, with all that is below it, and keeps its slot.
func TestSetOfAnotherParent(t *testing.T) {
	x, p := both(t, 8, under("d", ""), under("v", "d"), under("w", "d"), under("c", "v"), under("m", "c"), under("n", "v"))
	for _, parent := range []string{"w", "nobody", "", "not a handle", "d", "v"} {
		k, _ := x.Slot("c")
		bothSet(t, x, p, under("c", parent))
		if got, _ := x.Slot("c"); got != k || !slices.Contains(x.Kids(parent), "c") {
			t.Fatalf("%q: slot %d, kids %q", parent, got, x.Kids(parent))
		}
		same(t, x, p)
	}
	bothSet(t, x, p, under("c", "w"))
	if w := handles(x.Walk()); !slices.Equal(w, []string{"d", "v", "n", "w", "c", "m"}) {
		t.Errorf("%q", w)
	}
	if l := x.Above("m"); !slices.Equal(l, []string{"c", "w", "d"}) {
		t.Errorf("%q", l)
	}
}

// P8.2: the object is replaced whole; nothing of the one before stays.
func TestSetOfAllFields(t *testing.T) {
	x, p := both(t, 3, under("d", ""), odd("v", "d"), under("c", "v"))
	for _, o := range []api.Object{{Handle: "v"}, odd("v", "d"), {Handle: "v", Parent: "d"}, under("v", "d"), {Handle: "v", Parent: "d", Value: 1}} {
		bothSet(t, x, p, o)
		if got, is := x.At("v"); got != o || !is {
			t.Fatalf("%v %v, not %v", got, is, o)
		}
		same(t, x, p)
	}
}

// P8.2: what is set as it is stays as it is.
func TestSetThatChangesNothing(t *testing.T) {
	x, p := both(t, 4, under("d", ""), under("v", "d"), under("c", "v"), under("b", "b"))
	for range 3 {
		for _, o := range x.All() {
			set(t, x, o, api.OK)
			same(t, x, p)
		}
	}
}

// P8.2: what is not there is neither set nor removed, and nothing changes.
func TestSetAndRemoveOfWhatIsNotThere(t *testing.T) {
	for _, n := range []int{2, 3} { // a full tree, and another one
		x, p := both(t, n, under("d", "nobody"), under("v", "d"))
		for _, h := range append([]string{"c", "nobody", "dd", "u", "w"}, strange...) {
			set(t, x, under(h, "d"), api.ErrNone)
			set(t, x, under(h, h), api.ErrNone)
			remove(t, x, h, api.ErrNone)
			same(t, x, p)
		}
		bothRemove(t, x, p, "v")
		remove(t, x, "v", api.ErrNone)
		set(t, x, under("v", "d"), api.ErrNone)
		same(t, x, p)
	}
}

// P8.2 to P8.4: nothing is there before the first Add, nor after the last Remove.
func TestTreeWithoutObjects(t *testing.T) {
	x, p := both(t, 3)
	for range 2 {
		same(t, x, p)
		for _, h := range slices.Concat(names, strange) {
			remove(t, x, h, api.ErrNone)
			set(t, x, under(h, ""), api.ErrNone)
		}
		same(t, x, p)
		bothAdd(t, x, p, under("a", "b"))
		bothAdd(t, x, p, under("b", "a"))
		bothRemove(t, x, p, "b")
		bothRemove(t, x, p, "a")
	}
}

// P8.2, P8.4: a Parent that is not there yet, is added later, is removed, and comes again.
func TestParentComesAndGoes(t *testing.T) {
	x, p := both(t, 5, under("m", "c"), under("a", "c"), under("c", "v"))
	look := func(walk, above, kids []string) {
		t.Helper()
		same(t, x, p)
		if w := handles(x.Walk()); !slices.Equal(w, walk) || !slices.Equal(x.Above("m"), above) || !slices.Equal(x.Kids("v"), kids) {
			t.Fatalf("Walk %q, Above %q, Kids %q", w, x.Above("m"), x.Kids("v"))
		}
	}
	look([]string{"c", "a", "m"}, []string{"c"}, []string{"c"})
	bothAdd(t, x, p, under("v", ""))
	look([]string{"v", "c", "a", "m"}, []string{"c", "v"}, []string{"c"})
	bothRemove(t, x, p, "c")
	look([]string{"a", "m", "v"}, nil, nil)
	bothAdd(t, x, p, under("c", "v"))
	look([]string{"v", "c", "a", "m"}, []string{"c", "v"}, []string{"c"})
	bothRemove(t, x, p, "v")
	look([]string{"c", "a", "m"}, []string{"c"}, []string{"c"})
}

// P8.4, P8.7, P8.8: an object that is its own Parent.
func TestOwnParent(t *testing.T) {
	x, p := both(t, 4, under("b", "b"))
	if len(x.Walk()) != 0 || !slices.Equal(x.Kids("b"), []string{"b"}) || !slices.Equal(x.Above("b"), []string{"b"}) {
		t.Errorf("%q %q %q", handles(x.Walk()), x.Kids("b"), x.Above("b"))
	}
	same(t, x, p)
	bothAdd(t, x, p, under("a", "b"))
	bothAdd(t, x, p, under("d", ""))
	if !slices.Equal(handles(x.Walk()), []string{"d"}) || !slices.Equal(x.Kids("b"), []string{"a", "b"}) || !slices.Equal(x.Above("a"), []string{"b"}) {
		t.Errorf("%q %q %q", handles(x.Walk()), x.Kids("b"), x.Above("a"))
	}
	same(t, x, p)
	bothSet(t, x, p, under("b", "d"))
	same(t, x, p)
	if w := handles(x.Walk()); !slices.Equal(w, []string{"d", "b", "a"}) {
		t.Errorf("%q", w)
	}
	bothSet(t, x, p, under("b", "b"))
	same(t, x, p)
	bothRemove(t, x, p, "b")
	same(t, x, p)
	if w := handles(x.Walk()); !slices.Equal(w, []string{"a", "d"}) {
		t.Errorf("%q", w)
	}
}

// P8.4, P8.7, P8.8: two objects that are each other's Parents, what is below them, and what is beside them.
func TestEachOthersParents(t *testing.T) {
	x, p := both(t, 8, under("a", "b"), under("b", "a"), under("c", "b"), under("m", "c"), under("d", ""), under("v", "d"))
	if w := handles(x.Walk()); !slices.Equal(w, []string{"d", "v"}) {
		t.Errorf("%q", w)
	}
	if !slices.Equal(x.Kids("a"), []string{"b"}) || !slices.Equal(x.Kids("b"), []string{"a", "c"}) {
		t.Errorf("%q %q", x.Kids("a"), x.Kids("b"))
	}
	for h, want := range map[string][]string{"a": {"b", "a"}, "b": {"a", "b"}, "c": {"b", "a"}, "m": {"c", "b", "a"}} {
		if l := x.Above(h); !slices.Equal(l, want) {
			t.Errorf("%q: %q", h, l)
		}
	}
	same(t, x, p)
	bothRemove(t, x, p, "a")
	if w := handles(x.Walk()); !slices.Equal(w, []string{"b", "c", "m", "d", "v"}) {
		t.Errorf("%q", w)
	}
	same(t, x, p)
}

// P8.4, P8.7: a cycle of as many objects as there may be, closed by the last one, and opened at each.
func TestLongCycle(t *testing.T) {
	l := chain(api.MaxSlots, numbered(api.MaxSlots-1))
	for i := range l {
		x, p := both(t, api.MaxSlots, l...)
		if len(x.Walk()) != 0 || len(x.Above(numbered(i))) != api.MaxSlots {
			t.Fatalf("%d: %q, %q", i, handles(x.Walk()), x.Above(numbered(i)))
		}
		bothSet(t, x, p, under(numbered(i), ""))
		w := handles(x.Walk())
		if len(w) != api.MaxSlots || w[0] != numbered(i) {
			t.Fatalf("%d: %q", i, w)
		}
		if i%16 == 0 {
			same(t, x, p)
		}
	}
}

// P8.4, P8.7: as deep, and as wide, as it may be.
func TestDeepAndWide(t *testing.T) {
	deep := chain(api.MaxSlots, "")
	back := slices.Clone(deep)
	slices.Reverse(back)
	var wide []api.Object
	for i := range api.MaxSlots - 1 {
		wide = append(wide, under(numbered(i*29%(api.MaxSlots-1)), "top"))
	}
	for _, l := range [][]api.Object{deep, back, append(wide, under("top", "")), append(wide, under("aaa", "top"))} {
		x, p := both(t, api.MaxSlots, l...)
		same(t, x, p)
		if len(x.Walk()) != api.MaxSlots {
			t.Errorf("%q", handles(x.Walk()))
		}
	}
}

// P8.4: rows of kids of what is no object: of the empty string, of a Parent that is not there, and of texts that are no handles.
func TestKidsOfWhatIsNoObject(t *testing.T) {
	for _, s := range append([]string{"nobody", "zy"}, strange...) {
		x, p := both(t, 4, under("b", s), under("a", s), under("c", "b"))
		if l := x.Kids(s); !slices.Equal(l, []string{"a", "b"}) {
			t.Fatalf("%.40q: %q", s, l)
		}
		if len(x.Above("a")) != 0 || len(x.Above(s)) != 0 {
			t.Fatalf("%.40q: %q, %q", s, x.Above("a"), x.Above(s))
		}
		same(t, x, p)
		bothRemove(t, x, p, "a")
		bothRemove(t, x, p, "b")
		if len(x.Kids(s)) != 0 {
			t.Fatalf("%.40q: %q", s, x.Kids(s))
		}
		same(t, x, p)
	}
}

// P8.3, P8.4: the rows belong to who asked for them.
func TestRowsAreNew(t *testing.T) {
	x, p := both(t, 6, under("d", ""), under("v", "d"), under("a", "d"), under("c", "v"))
	for range 2 {
		for _, l := range [][]api.Object{x.All(), x.Walk()} {
			for i := range l {
				l[i] = odd("changed", "changed")
			}
			_ = append(l[:1], odd("q", "r"), odd("r", "q"))
		}
		for _, l := range [][]string{x.Kids("d"), x.Kids(""), x.Above("c")} {
			for i := range l {
				l[i] = "changed"
			}
			_ = append(l[:1], "q", "r")
		}
		same(t, x, p)
	}
}

// P8.3, P8.4: the rows stay as they were given, whatever becomes of the tree.
func TestRowsStay(t *testing.T) {
	x, p := both(t, 6, under("d", ""), under("v", "d"), under("a", "d"), under("c", "v"))
	all, walk, kids, above := x.All(), x.Walk(), x.Kids("d"), x.Above("c")
	wantAll, wantWalk := p.all(), p.walk()
	bothSet(t, x, p, odd("v", "a"))
	bothRemove(t, x, p, "d")
	bothAdd(t, x, p, under("b", "c"))
	bothAdd(t, x, p, under("aa", "d"))
	if !slices.Equal(all, wantAll) || !slices.Equal(walk, wantWalk) || !slices.Equal(kids, []string{"a", "v"}) || !slices.Equal(above, []string{"v", "d"}) {
		t.Errorf("%v %v %q %q", all, walk, kids, above)
	}
	same(t, x, p)
}

// P8.3, P8.4: calls that only ask change nothing.
func TestAskingChangesNothing(t *testing.T) {
	x, p := both(t, 3, under("v", "d"), under("d", "nobody"), under("b", "b"))
	for range 3 {
		same(t, x, p)
		x.Copy()
	}
}

// P8.5: a copy goes on alone, and so does what it was made of, whatever was done before.
func TestCopyGoesOnAlone(t *testing.T) {
	for many := range 5 {
		l := []api.Object{under("d", ""), under("v", "d"), under("c", "v"), under("b", "b")}
		x, p := both(t, 6, l[:many]...)
		if many > 2 { // there is a free slot between
			bothRemove(t, x, p, "v")
		}
		y, q := x.Copy(), slices.Clone(p)
		if y == nil || y == x {
			t.Fatalf("%p of %p", y, x)
		}
		sameBoth(t, x, p, y, q)
		bothAdd(t, x, p, under("m", "d"))
		bothSet(t, x, p, odd("d", "m"))
		bothRemove(t, x, p, "c")
		sameBoth(t, x, p, y, q)
		bothAdd(t, y, q, under("m", "c"))
		bothAdd(t, y, q, under("n", ""))
		bothSet(t, y, q, under("b", "d"))
		bothRemove(t, y, q, "d")
		sameBoth(t, x, p, y, q)
		bothAdd(t, x, p, under("z", "d"))
		bothRemove(t, x, p, "m")
		bothAdd(t, y, q, under("y", "d"))
		sameBoth(t, x, p, y, q)
	}
}

func sameBoth(t *testing.T, x *Tree, p plain, y *Tree, q plain) {
	t.Helper()
	same(t, x, p)
	same(t, y, q)
}

// P8.5: a copy of a copy, and of a full tree, each with slots of its own.
func TestCopyOfACopy(t *testing.T) {
	x, p := both(t, 3, under("b", ""), under("a", "b"), under("z", "a"))
	y := x.Copy()
	z := y.Copy()
	add(t, y, under("m", ""), api.ErrFull)
	remove(t, y, "a", api.OK)
	add(t, y, under("m", "b"), api.OK)
	same(t, x, p)
	same(t, z, p)
	add(t, x, under("m", ""), api.ErrFull)
	add(t, z, under("m", ""), api.ErrFull)
	if k, is := y.Slot("m"); k != 1 || !is || y.Slots() != 3 {
		t.Errorf("%d %v of %d", k, is, y.Slots())
	}
}

// unmade gives Trees that New and Copy did not return.
func unmade(t *testing.T) []*Tree {
	x, _ := both(t, 5, under("d", ""), under("v", "d"), under("b", "b"))
	fromNew, fromCopy := *x, *x.Copy()
	again := fromNew
	return []*Tree{nil, {}, new(Tree), &fromNew, &fromCopy, &again}
}

// answersNothing holds what such a Tree answers.
func answersNothing(t *testing.T, x *Tree) {
	t.Helper()
	for _, h := range slices.Concat(names, strange) {
		add(t, x, under(h, ""), api.ErrNil)
		add(t, x, under(h, h), api.ErrNil)
		set(t, x, under(h, ""), api.ErrNil)
		remove(t, x, h, api.ErrNil)
		sameOf(t, x, nil, h)
	}
	sameRows(t, x, nil)
}

// P8.1 to P8.5: nothing is to be had of them, nor of their copies, whatever was called before.
func TestTreesThatNewAndCopyDidNotReturn(t *testing.T) {
	for i, x := range unmade(t) {
		answersNothing(t, x)
		y := x.Copy()
		if (x == nil) != (y == nil) || x != nil && x == y {
			t.Errorf("%d: %p of %p", i, y, x)
		}
		answersNothing(t, y)
		answersNothing(t, x)
	}
}

// P8.5: an assignment is no way to the objects of a tree.
func TestAssignedTreeLeavesTheOtherAsItIs(t *testing.T) {
	x, p := both(t, 4, under("d", ""), under("v", "d"))
	y := *x
	y.Add(under("a", "d"))
	y.Set(under("v", ""))
	y.Remove("d")
	y.Copy().Remove("v")
	same(t, x, p)
	bothAdd(t, x, p, under("a", "d"))
	bothRemove(t, x, p, "v")
	same(t, x, p)
}

// Nothing is kept of objects that are gone, nor of Parents that were changed.
func TestNothingIsKeptOfWhatIsGone(t *testing.T) {
	x := fresh(t, 3)
	add(t, x, under("a", ""), api.OK)
	for i := range 600 {
		set(t, x, under("a", numbered(i)), api.OK)
		add(t, x, under("b", numbered(i)+"x"), api.OK)
		remove(t, x, "b", api.OK)
	}
	if len(x.kids) != 1 {
		t.Errorf("%d rows of kids", len(x.kids))
	}
	remove(t, x, "a", api.OK)
	if len(x.kids) != 0 || x.objects != [api.MaxSlots]api.Object{} {
		t.Errorf("%v %v", x.kids, x.objects)
	}
}

// P8.2 to P8.4, P8.6 to P8.8: all trees of four objects, those with cycles included.
func TestAllSmallTrees(t *testing.T) {
	four := []string{"b", "a", "d", "c"}
	parents := append([]string{"", "nobody"}, four...)
	trees := 1
	for range four {
		trees *= len(parents)
	}
	for s := range trees {
		x, p := both(t, len(four))
		for _, h := range four {
			bothAdd(t, x, p, under(h, parents[s%len(parents)]))
			s /= len(parents)
		}
		sameRows(t, x, p)
		for _, h := range parents {
			sameOf(t, x, p, h)
		}
		consistent(t, x)
	}
}

// step is one call that changes a tree: Add, Set or Remove, by do.
type step struct {
	do        int
	h, parent string
}

func (s step) on(t *testing.T, x *Tree, p plain) {
	t.Helper()
	switch s.do {
	case 0:
		bothAdd(t, x, p, under(s.h, s.parent))
	case 1:
		bothSet(t, x, p, under(s.h, s.parent))
	default:
		bothRemove(t, x, p, s.h)
	}
}

// P8.2 to P8.8: all there is to do with few objects in two slots, step by step.
func TestAllShortSequences(t *testing.T) {
	few := []string{"a", "b", "c"}
	var steps []step
	for _, h := range few {
		steps = append(steps, step{do: 2, h: h})
		for _, parent := range append([]string{""}, few...) {
			steps = append(steps, step{0, h, parent}, step{1, h, parent})
		}
	}
	const many = 3
	sequences := 1
	for range many {
		sequences *= len(steps)
	}
	for s := range sequences {
		x, p := both(t, 2)
		for range many {
			steps[s%len(steps)].on(t, x, p)
			s /= len(steps)
		}
		sameRows(t, x, p)
		for _, h := range append(few, "", "nobody") {
			sameOf(t, x, p, h)
		}
		consistent(t, x)
	}
}

// P8.1 to P8.8: long ways, with copies of which one goes on; the order of steps is the same in each run.
func TestLongSequences(t *testing.T) {
	state := uint32(1)
	next := func(n int) int {
		state = state*1664525 + 1013904223
		return int(state>>8) % n
	}
	for _, n := range []int{1, 4, 12} {
		x, p := both(t, n)
		for range 1500 {
			s := step{next(3), names[next(len(names))], names[next(len(names))]}
			if next(4) == 0 {
				s.parent = strange[next(len(strange))]
			}
			s.on(t, x, p)
			if next(20) == 0 {
				left := x
				x = x.Copy()
				left.Remove(s.h)
				left.Add(under(s.parent, s.h))
				left.Set(odd(names[next(len(names))], s.h))
			}
			sameRows(t, x, p)
			consistent(t, x)
			sameOf(t, x, p, s.parent)
			sameOf(t, x, p, names[next(len(names))])
		}
		same(t, x, p)
	}
}
