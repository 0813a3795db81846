package incr

import (
	"slices"
	"strconv"
	"strings"
	"testing"

	"bedside/api"
	"bedside/change"
	"bedside/object"
	"bedside/tree"
	"bedside/wf"
)

// strange are strings that are no handles.
var strange = []string{"", "-", ".", ".a", "_", "1", "1a", "A", "aB", "a.", "a..b", "a b", " a", "a ", "a\x00", "\x00", "\x80", "\xff", "a\xff", "\xc3\xa4", "{", "abcdefghijklmnopq", strings.Repeat("z", 1000)}

// wrongKinds are kinds of objects that do not exist; wrongChanges are kinds of changes that do not.
var (
	wrongKinds   = []uint8{0, 10, 11, 15, 16, 17, 63, 64, 128, 254, 255}
	wrongChanges = []uint8{0, 5, 6, 7, 8, 9, 15, 16, 127, 128, 254, 255}
)

// parentsOf says which kinds each kind may be under, refersTo to which ones it may refer.
var (
	parentsOf = map[uint8][]uint8{
		api.KdVmd: {api.KdMds}, api.KdChannel: {api.KdVmd}, api.KdMetric: {api.KdChannel}, api.KdAlertSystem: {api.KdMds, api.KdVmd},
		api.KdCondition: {api.KdAlertSystem}, api.KdSignal: {api.KdAlertSystem}, api.KdLimit: {api.KdAlertSystem}, api.KdContext: {api.KdMds},
	}
	refersTo = map[uint8][]uint8{api.KdCondition: {api.KdMetric}, api.KdLimit: {api.KdMetric}, api.KdSignal: {api.KdCondition, api.KdLimit}}
)

// bed gives a well-formed list with each kind in it, each of its objects being known by its handle: two devices d and e, and what is under them.
func bed() []api.Object {
	return []api.Object{
		{Handle: "d", Kind: api.KdMds},
		{Handle: "v", Kind: api.KdVmd, Parent: "d"},
		{Handle: "c", Kind: api.KdChannel, Parent: "v"},
		{Handle: "m", Kind: api.KdMetric, Parent: "c", Lo: -10, Hi: 100, Digits: 1, Has: true, Value: 37},
		{Handle: "s", Kind: api.KdAlertSystem, Parent: "v", On: true},
		{Handle: "l", Kind: api.KdLimit, Parent: "s", Ref: "m", Low: 1, High: 99},
		{Handle: "k", Kind: api.KdCondition, Parent: "s", Ref: "m", Type: 2},
		{Handle: "g", Kind: api.KdSignal, Parent: "s", Ref: "l"},
		{Handle: "h", Kind: api.KdSignal, Parent: "s", Ref: "k"},
		{Handle: "t", Kind: api.KdAlertSystem, Parent: "d"},
		{Handle: "n", Kind: api.KdLimit, Parent: "t", Ref: "m", Low: -10, High: 100},
		{Handle: "x", Kind: api.KdContext, Parent: "d", Type: 1, Assoc: api.AsYes},
		{Handle: "y", Kind: api.KdContext, Parent: "d", Type: 1, Assoc: api.AsPre},
		{Handle: "e", Kind: api.KdMds},
		{Handle: "e.v", Kind: api.KdVmd, Parent: "e"},
		{Handle: "e.c", Kind: api.KdChannel, Parent: "e.v"},
		{Handle: "e.m", Kind: api.KdMetric, Parent: "e.c", Hi: 5},
		{Handle: "e.s", Kind: api.KdAlertSystem, Parent: "e"},
		{Handle: "e.k", Kind: api.KdCondition, Parent: "e.s", Ref: "e.m"},
		{Handle: "e.x", Kind: api.KdContext, Parent: "e", Type: 1, Assoc: api.AsYes},
	}
}

// of gives the object of bed with that handle.
func of(h string) api.Object {
	o, _ := wf.Find(bed(), h)
	return o
}

func with(o api.Object, does func(o *api.Object)) api.Object {
	does(&o)
	return o
}

// bare and only give the object without its state, and its Handle, Kind and state alone.
func bare(o api.Object) api.Object {
	o.On, o.Has, o.Value, o.Low, o.High, o.Assoc = false, false, 0, 0, 0, 0
	return o
}

func only(o api.Object) api.Object {
	o.Parent, o.Type, o.Ref, o.Lo, o.Hi, o.Digits = "", 0, "", 0, 0, 0
	return o
}

func create(o api.Object) api.Change { return api.Change{Kind: api.CgCreate, O: o} }
func desc(o api.Object) api.Change   { return api.Change{Kind: api.CgDesc, O: bare(o)} }
func state(o api.Object) api.Change  { return api.Change{Kind: api.CgState, O: only(o)} }
func gone(h string) api.Change       { return api.Change{Kind: api.CgDelete, O: api.Object{Handle: h}} }

// all gives deletions of all these handles; new gives creations of all these objects.
func all(handles ...string) []api.Change {
	var set []api.Change
	for _, h := range handles {
		set = append(set, gone(h))
	}
	return set
}

func news(l []api.Object) []api.Change {
	var set []api.Change
	for _, o := range l {
		set = append(set, create(o))
	}
	return set
}

// desced and stated give a change of the object of bed with that handle.
func desced(h string, does func(o *api.Object)) api.Change { return desc(with(of(h), does)) }
func stated(h string, does func(o *api.Object)) api.Change { return state(with(of(h), does)) }

// plant gives a tree of these objects, well-formed or not, in that many slots.
func plant(t *testing.T, slots int, l []api.Object) *tree.Tree {
	t.Helper()
	x, e := tree.New(slots)
	for _, o := range l {
		if e == api.OK {
			e = x.Add(o)
		}
	}
	if e != api.OK {
		t.Fatalf("no tree of %v: %d", l, e)
	}
	return x
}

// shot is all that a tree tells of itself.
type shot struct {
	objects, walk []api.Object
	slots         []int
	many, size    int
}

func take(x *tree.Tree) shot {
	s := shot{objects: x.All(), walk: x.Walk(), many: x.Many(), size: x.Slots()}
	for _, o := range s.objects {
		k, _ := x.Slot(o.Handle)
		s.slots = append(s.slots, k)
	}
	return s
}

// is tells whether the tree is as it was at the shot.
func (s shot) is(x *tree.Tree) bool {
	n := take(x)
	return slices.Equal(s.objects, n.objects) && slices.Equal(s.walk, n.walk) && slices.Equal(s.slots, n.slots) && s.many == n.many && s.size == n.size
}

// plain gives the result of the set, or its error, as the document says them: of the whole list.
func plain(l []api.Object, slots int, set []api.Change) ([]api.Object, api.Errno) {
	out, e := change.Apply(l, set)
	if e == api.OK && len(out) > slots {
		e = api.ErrFull
	}
	if e == api.OK {
		e = wf.Check(out)
	}
	if e != api.OK {
		return nil, e
	}
	return out, api.OK
}

// keeps expects of a tree to which the set was applied that what was there, and still is, is in its slot, and that no two objects are in one.
func keeps(t *testing.T, what string, was, now *tree.Tree) {
	t.Helper()
	taken := map[int]string{}
	for _, o := range now.All() {
		k, _ := now.Slot(o.Handle)
		if other, two := taken[k]; two || k < 0 || k >= now.Slots() {
			t.Errorf("%s: %s in slot %d, as %s", what, o.Handle, k, other)
		}
		taken[k] = o.Handle
		if before, there := was.Slot(o.Handle); there && before != k {
			t.Errorf("%s: %s in slot %d, no longer in %d", what, o.Handle, k, before)
		}
	}
}

// undone expects what Undo tells of the set, and that the inverse takes back, in the tree y, what the set did to x.
func undone(t *testing.T, what string, x, y *tree.Tree, set []api.Change, fits bool) {
	t.Helper()
	want, e := change.Undo(x.All(), set)
	back, f := Undo(x, set)
	if f != e || !slices.Equal(back, want) {
		t.Errorf("%s: Undo: %v %d, not %v %d", what, back, f, want, e)
	}
	if !fits {
		return
	}
	if f := Check(y, back); f != api.OK {
		t.Errorf("%s: Check of the inverse %v: %d", what, back, f)
	}
	if f := Do(y, back); f != api.OK || !slices.Equal(y.All(), x.All()) || !slices.Equal(y.Walk(), x.Walk()) || y.Many() != x.Many() {
		t.Errorf("%s: restored by %v: %v %d, not %v", what, back, y.All(), f, x.All())
	}
}

// expect holds all that is told of the set, and all that it does to the well-formed tree x, against what is expected; x itself stays as it is.
func expect(t *testing.T, what string, x *tree.Tree, set []api.Change, want []api.Object, e api.Errno) {
	t.Helper()
	before, set0, y := take(x), slices.Clone(set), x.Copy()
	if f := Check(x, set); f != e {
		t.Errorf("%s: %v: Check: %d, not %d", what, set, f, e)
	}
	if f := Do(y, set); f != e {
		t.Errorf("%s: %v: Do: %d, not %d", what, set, f, e)
	}
	if e != api.OK && !before.is(y) {
		t.Errorf("%s: %v: refused, but it left %v in %v, not %v in %v", what, set, take(y).objects, take(y).slots, before.objects, before.slots)
	}
	if e == api.OK && (!slices.Equal(y.All(), want) || !slices.Equal(y.Walk(), plant(t, 64, want).Walk()) || y.Many() != len(want) || y.Slots() != x.Slots()) {
		t.Errorf("%s: %v: done: %v, not %v", what, set, y.All(), want)
	}
	keeps(t, what, x, y)
	undone(t, what, x, y, set, e == api.OK)
	if !before.is(x) || !slices.Equal(set, set0) {
		t.Errorf("%s: %v: the arguments were changed", what, set)
	}
}

// asPlain expects what the plain rules say, and gives the error.
func asPlain(t *testing.T, what string, x *tree.Tree, set []api.Change) api.Errno {
	t.Helper()
	want, e := plain(x.All(), x.Slots(), set)
	expect(t, what, x, set, want, e)
	return e
}

// says expects that error of the set, and that the plain rules say so, too.
func says(t *testing.T, what string, x *tree.Tree, e api.Errno, set ...api.Change) {
	t.Helper()
	if f := asPlain(t, what, x, set); f != e {
		t.Errorf("%s: %v: %d, not %d", what, set, f, e)
	}
}

// roomy gives bed in a tree with some free slots; after gives it after a set that must be done.
func roomy(t *testing.T) *tree.Tree {
	t.Helper()
	return plant(t, 40, bed())
}

func after(t *testing.T, x *tree.Tree, set ...api.Change) *tree.Tree {
	t.Helper()
	x = x.Copy()
	if e := Do(x, set); e != api.OK {
		t.Fatalf("%v cannot be done: %d", set, e)
	}
	return x
}

// The examples of the chapter.
func TestExamples(t *testing.T) {
	d, v := api.Object{Handle: "d", Kind: api.KdMds}, api.Object{Handle: "v", Kind: api.KdVmd, Parent: "d"}
	says(t, "1 slot", plant(t, 1, []api.Object{d}), api.ErrFull, create(v))
	two := plant(t, 2, []api.Object{d})
	says(t, "2 slots", two, api.OK, create(v))
	says(t, "its parent", after(t, two, create(v)), api.ErrParent, gone("d"))
}

// P11.1, P11.2: trees that tree's New and Copy did not return, whatever the set.
func TestTreesThatAreNone(t *testing.T) {
	full := roomy(t)
	before := take(full)
	assigned := *full
	for _, x := range []*tree.Tree{nil, {}, new(tree.Tree), &assigned, assigned.Copy()} {
		for _, set := range [][]api.Change{nil, {}, {{}}, all("y"), all("y", "y"), {create(api.Object{Handle: "z", Kind: api.KdMds})}, make([]api.Change, 100)} {
			if e := Check(x, set); e != api.ErrNil {
				t.Errorf("Check: %v: %d", set, e)
			}
			if e := Do(x, set); e != api.ErrNil || x.Many() != 0 {
				t.Errorf("Do: %v: %d", set, e)
			}
			if back, e := Undo(x, set); e != api.ErrNil || back != nil {
				t.Errorf("Undo: %v: %v %d", set, back, e)
			}
		}
	}
	if !before.is(full) {
		t.Error("a tree was changed by way of one that was assigned from it")
	}
	says(t, "a copy", full.Copy(), api.OK, gone("y"))
}

// P11.1, P11.2: the empty set, of trees of any sort.
func TestEmptySet(t *testing.T) {
	for _, set := range [][]api.Change{nil, {}} {
		expect(t, "no objects", plant(t, 1, nil), set, nil, api.OK)
		expect(t, "no objects", plant(t, 64, nil), set, nil, api.OK)
		expect(t, "full", plant(t, 1, []api.Object{of("d")}), set, []api.Object{of("d")}, api.OK)
		asPlain(t, "bed", roomy(t), set)
		asPlain(t, "full bed", plant(t, 20, bed()), set)
	}
}

// notValid gives changes of bed that are not valid, by what they contain.
func notValid() []api.Change {
	set := []api.Change{{}, gone(""), gone("A"), {Kind: api.CgDelete, O: of("y")}, {Kind: api.CgDesc, O: of("m")}, {Kind: api.CgState, O: of("m")}, create(only(of("m"))), create(api.Object{Handle: "z", Kind: api.KdVmd})}
	for _, kind := range wrongChanges {
		set = append(set, api.Change{Kind: kind, O: api.Object{Handle: "y"}}, api.Change{Kind: kind, O: of("y")}, api.Change{Kind: kind, O: api.Object{Handle: "z", Kind: api.KdMds}})
	}
	for _, kind := range wrongKinds {
		wrong := api.Object{Handle: "y", Kind: kind, Parent: "d"}
		set = append(set, create(wrong), desc(wrong), state(wrong), create(api.Object{Handle: "z", Kind: kind, Parent: "d"}))
	}
	for _, h := range strange {
		wrong := api.Object{Handle: h, Kind: api.KdVmd, Parent: "d"}
		set = append(set, gone(h), create(wrong), desc(wrong), state(wrong), create(api.Object{Handle: "z", Kind: api.KdVmd, Parent: h}), desced("l", func(o *api.Object) { o.Ref = h }))
	}
	tooMuch := []func(o *api.Object){
		func(o *api.Object) { o.Lo, o.Hi = 2, 1 }, func(o *api.Object) { o.Hi = api.MaxNumber + 1 }, func(o *api.Object) { o.Digits = 7 }, func(o *api.Object) { o.Type = 1 }, func(o *api.Object) { o.Ref = "m" },
	}
	for _, does := range tooMuch {
		set = append(set, desced("m", does), create(with(of("m"), does)))
	}
	set = append(set, stated("m", func(o *api.Object) { o.Has = false }), stated("m", func(o *api.Object) { o.Value = -api.MaxNumber - 1 }), stated("l", func(o *api.Object) { o.Low = 100 }), stated("x", func(o *api.Object) { o.Assoc = 4 }))
	return set
}

// P11.1, P11.2: a set that is not valid, whatever else there is to say of it.
func TestSetsThatAreNotValid(t *testing.T) {
	trees := []*tree.Tree{roomy(t), plant(t, 20, bed()), plant(t, 3, nil)}
	for _, x := range trees {
		for _, c := range notValid() {
			says(t, "alone", x, api.ErrChange, c)
			says(t, "in front", x, api.ErrChange, c, gone("zz"))
			says(t, "behind", x, api.ErrChange, gone("e.x"), create(of("d")), c)
		}
		says(t, "twice", x, api.ErrChange, all("y", "y")...)
		says(t, "twice, apart", x, api.ErrChange, all("y", "g", "zz", "y")...)
		says(t, "created and deleted", x, api.ErrChange, create(api.Object{Handle: "z", Kind: api.KdMds}), gone("z"))
		says(t, "deleted and created", x, api.ErrChange, gone("y"), create(of("y")))
		says(t, "both parts", x, api.ErrChange, desc(of("m")), state(of("m")))
		says(t, "nine", x, api.ErrChange, all("y", "x", "e.x", "g", "h", "k", "l", "n", "e.k")...)
		says(t, "many", x, api.ErrChange, make([]api.Change, 1000)...)
	}
	says(t, "eight", trees[0], api.OK, all("y", "x", "e.x", "g", "h", "k", "l", "n")...)
}

// P11.1, P11.2: what cannot be applied, whatever would come of the other changes; the first one is told.
func TestChangesThatCannotBeApplied(t *testing.T) {
	x := plant(t, 20, bed())
	over := create(api.Object{Handle: "z", Kind: api.KdMds}) // too many for the slots
	broken := stated("m", func(o *api.Object) { o.Value = 101 })
	for _, o := range bed() {
		if o.Kind != api.KdMetric {
			says(t, "created again", x, api.ErrTwice, over, broken, create(o))
		}
		says(t, "created as another kind", x, api.ErrTwice, create(api.Object{Handle: o.Handle, Kind: api.KdVmd, Parent: "q"}))
		o.Handle = "z"
		says(t, "no state", x, api.ErrNone, broken, state(o))
		says(t, "no descriptor", x, api.ErrNone, broken, desc(o))
		for _, p := range bed() {
			o.Handle = p.Handle
			if o.Kind != p.Kind {
				says(t, "another kind's state", x, api.ErrKind, state(o))
				says(t, "another kind's descriptor", x, api.ErrKind, desc(o))
			}
		}
	}
	says(t, "not there", x, api.ErrNone, over, broken, gone("zz"))
	says(t, "another parent", x, api.ErrParent, over, broken, desced("c", func(o *api.Object) { o.Parent = "e.v" }))
	says(t, "no parent", x, api.ErrParent, desced("y", func(o *api.Object) { o.Parent = "zz" }))
	says(t, "of an empty tree", plant(t, 1, nil), api.ErrNone, gone("d"))
	four := []api.Change{create(of("d")), gone("zz"), state(api.Object{Handle: "v", Kind: api.KdLimit}), desced("c", func(o *api.Object) { o.Parent = "e.v" })}
	for i, e := range []api.Errno{api.ErrTwice, api.ErrNone, api.ErrKind, api.ErrParent} {
		four[0], four[i] = four[i], four[0]
		says(t, "the first one", x, e, four...)
		four[0], four[i] = four[i], four[0]
	}
	says(t, "behind a creation", x, api.ErrNone, create(api.Object{Handle: "z", Kind: api.KdVmd, Parent: "d"}), state(api.Object{Handle: "w", Kind: api.KdVmd}))
}

// several gives n objects like o, whose handles are o's with a number behind.
func several(n int, o api.Object) []api.Object {
	var l []api.Object
	for i := range n {
		l = append(l, with(o, func(o *api.Object) { o.Handle += strconv.Itoa(i) }))
	}
	return l
}

// P11.1: as many objects as slots, and one more; created one by one, and together; with deletions beside them.
func TestSlots(t *testing.T) {
	for _, size := range []int{21, 22, 24, 27, 28} {
		x, room := plant(t, size, bed()), size-20
		rows := several(8, api.Object{Handle: "w", Kind: api.KdChannel, Parent: "e.v"})[:7]
		for n := 1; n <= 7; n++ {
			e := api.OK
			if n > room {
				e = api.ErrFull
			}
			says(t, "together", x, e, news(rows[:n])...)
			if n < 7 {
				says(t, "with one that goes", after(t, x, news(rows[:min(room, 1)])...), e, append(news(rows[1:n+1]), gone("y"))...)
			}
		}
		for n := range min(room, 7) {
			x = after(t, x, create(rows[n]))
		}
		if room < 7 {
			says(t, "one by one", x, api.ErrFull, create(rows[room]))
			says(t, "in its place", x, api.OK, create(rows[room]), gone("y"))
			says(t, "in its place", x, api.OK, gone("y"), create(rows[room]))
			says(t, "one too many", x, api.ErrFull, gone("y"), create(rows[room]), create(api.Object{Handle: "z", Kind: api.KdMds}))
		}
	}
}

// P11.1: a tree of one slot, in which one takes another's place; and one with all slots there may be.
func TestLeastAndMostSlots(t *testing.T) {
	one := plant(t, 1, []api.Object{of("d")})
	says(t, "one by another", one, api.OK, create(of("e")), gone("d"))
	says(t, "one by two", one, api.ErrFull, create(of("e")), gone("d"), create(api.Object{Handle: "f", Kind: api.KdMds}))
	says(t, "none", one, api.OK, gone("d"))
	l := slices.Concat(bed(), several(7, api.Object{Handle: "w", Kind: api.KdVmd, Parent: "d"}), several(7, api.Object{Handle: "a", Kind: api.KdVmd, Parent: "e"}))
	l = append(l, several(15, api.Object{Handle: "o", Kind: api.KdMetric, Parent: "c"})...)
	l = append(l, several(15, api.Object{Handle: "p", Kind: api.KdMetric, Parent: "e.c"})...)
	x := plant(t, 64, l)
	says(t, "65", x, api.ErrFull, create(api.Object{Handle: "f", Kind: api.KdMds}))
	says(t, "64", x, api.OK, create(api.Object{Handle: "f", Kind: api.KdMds}), gone("y"))
	says(t, "none more", x, api.OK, desc(of("m")), state(of("l")))
}

// P11.1: ErrFull comes ahead of each rule's error, and behind those of sets that cannot be applied.
func TestFullAmongTheErrors(t *testing.T) {
	x, y := plant(t, 20, bed()), roomy(t)
	for _, b := range breaches() {
		if b.frees {
			continue
		}
		says(t, "full and broken", x, api.ErrFull, append(slices.Clone(b.set), create(api.Object{Handle: "z", Kind: api.KdMds}), create(api.Object{Handle: "zz", Kind: api.KdMds}))...)
		says(t, "room and broken", y, b.e, b.set...)
		says(t, "full, broken and none", x, api.ErrNone, append(slices.Clone(b.set), create(api.Object{Handle: "z", Kind: api.KdMds}), gone("zy"))...)
	}
}

// breach is a set that breaks a rule; frees tells that it leaves room for two more objects in a tree that was full.
type breach struct {
	what  string
	set   []api.Change
	e     api.Errno
	frees bool
}

// breaches gives sets that break a rule of bed, one each.
func breaches() []breach {
	one := func(c ...api.Change) []api.Change { return c }
	return []breach{
		{"a value above", one(stated("m", func(o *api.Object) { o.Value = 101 })), api.ErrRange, false},
		{"a value below", one(stated("m", func(o *api.Object) { o.Value = -11 })), api.ErrRange, false},
		{"a first value", one(state(api.Object{Handle: "e.m", Kind: api.KdMetric, Has: true, Value: 6})), api.ErrRange, false},
		{"a range without the value", one(desced("m", func(o *api.Object) { o.Hi = 36 })), api.ErrRange, false},
		{"a range behind the value", one(desced("m", func(o *api.Object) { o.Lo = 38 })), api.ErrRange, false},
		{"created under nothing", one(create(api.Object{Handle: "w", Kind: api.KdVmd, Parent: "q"})), api.ErrParent, false},
		{"created under itself", one(create(api.Object{Handle: "w", Kind: api.KdVmd, Parent: "w"})), api.ErrParent, false},
		{"created under another kind", one(create(api.Object{Handle: "w", Kind: api.KdChannel, Parent: "d"})), api.ErrParent, false},
		{"created under what goes", one(create(api.Object{Handle: "w", Kind: api.KdContext, Parent: "y"}), gone("y")), api.ErrParent, false},
		{"a kid without its parent", one(gone("c")), api.ErrParent, false},
		{"a kid of a kid that goes", one(gone("e"), gone("e.x"), gone("e.v")), api.ErrParent, true},
		{"a second alert system", one(create(api.Object{Handle: "w", Kind: api.KdAlertSystem, Parent: "v"})), api.ErrMany, false},
		{"two alert systems", one(create(api.Object{Handle: "w", Kind: api.KdAlertSystem, Parent: "e.v"}), create(api.Object{Handle: "z.z", Kind: api.KdAlertSystem, Parent: "e.v"})), api.ErrMany, false},
		{"a condition without its metric", one(gone("e.m")), api.ErrRef, false},
		{"a signal without its limit", one(gone("l")), api.ErrRef, false},
		{"a signal without its condition", one(gone("k")), api.ErrRef, false},
		{"a signal without its limit, whose metric goes, too", one(gone("m"), gone("l"), gone("k"), gone("n"), gone("h")), api.ErrRef, true},
		{"a ref to nothing", one(desced("l", func(o *api.Object) { o.Ref = "q" })), api.ErrRef, false},
		{"a ref to itself", one(desced("l", func(o *api.Object) { o.Ref = "l" })), api.ErrRef, false},
		{"a ref to another device", one(desced("l", func(o *api.Object) { o.Ref = "e.m" })), api.ErrRef, false},
		{"created with a ref to another alert system", one(create(api.Object{Handle: "w", Kind: api.KdSignal, Parent: "t", Ref: "l"})), api.ErrRef, false},
		{"a limit above", one(stated("l", func(o *api.Object) { o.High = 101 })), api.ErrLimit, false},
		{"a limit below", one(stated("l", func(o *api.Object) { o.Low = -11 })), api.ErrLimit, false},
		{"a range above a limit", one(desced("m", func(o *api.Object) { o.Lo = -9 })), api.ErrLimit, false},
		{"a range below a limit", one(desced("m", func(o *api.Object) { o.Hi = 99 })), api.ErrLimit, false},
		{"a limit of another metric", one(create(api.Object{Handle: "w", Kind: api.KdLimit, Parent: "e.s", Ref: "e.m", High: 6})), api.ErrLimit, false},
		{"a second context", one(stated("y", func(o *api.Object) { o.Assoc = api.AsYes })), api.ErrAssoc, false},
		{"a second context, created", one(create(api.Object{Handle: "w", Kind: api.KdContext, Parent: "e", Type: 1, Assoc: api.AsYes})), api.ErrAssoc, false},
		{"two contexts, created", one(create(api.Object{Handle: "w", Kind: api.KdContext, Parent: "e", Assoc: api.AsYes}), create(api.Object{Handle: "w.w", Kind: api.KdContext, Parent: "e", Assoc: api.AsYes})), api.ErrAssoc, false},
	}
}

// P11.1, P11.4: each rule broken by what a set touches.
func TestEachRule(t *testing.T) {
	x := roomy(t)
	for _, b := range breaches() {
		says(t, b.what, x, b.e, b.set...)
		slices.Reverse(b.set)
		says(t, b.what+", in reverse", x, b.e, b.set...)
	}
}

// P11.1: values at the ends of their range, and beyond; ranges that are moved together with the value of another metric.
func TestValuesAndRanges(t *testing.T) {
	x := roomy(t)
	for n := int64(-13); n < 105; n++ {
		e := api.ErrRange
		if -10 <= n && n <= 100 {
			e = api.OK
		}
		says(t, "a value", x, e, stated("m", func(o *api.Object) { o.Value = n }))
		says(t, "no value", x, api.OK, state(api.Object{Handle: "m", Kind: api.KdMetric}))
	}
	empty := after(t, x, all("n", "l", "k", "g", "h")...)
	for lo := int64(34); lo < 40; lo++ {
		for hi := lo; hi < 40; hi++ {
			e := api.ErrRange
			if lo <= 37 && 37 <= hi {
				e = api.OK
			}
			says(t, "a range", empty, e, desced("m", func(o *api.Object) { o.Lo, o.Hi = lo, hi }))
			says(t, "a range of no value", after(t, empty, state(api.Object{Handle: "m", Kind: api.KdMetric})), api.OK, desced("m", func(o *api.Object) { o.Lo, o.Hi = lo, hi }))
		}
	}
	far := func(o *api.Object) { o.Value = api.MaxNumber }
	says(t, "two values", x, api.ErrRange, stated("m", far), state(api.Object{Handle: "e.m", Kind: api.KdMetric, Has: true, Value: -1}))
	says(t, "a value and digits", x, api.OK, desced("m", func(o *api.Object) { o.Digits = 6 }), state(api.Object{Handle: "e.m", Kind: api.KdMetric, Has: true, Value: 5}))
	says(t, "the whole range", after(t, x, desced("m", func(o *api.Object) { o.Lo, o.Hi = -api.MaxNumber, api.MaxNumber })), api.OK, stated("m", far))
}

// sample gives an object of that kind, without fault, under that parent.
func sample(kind uint8, h, parent string) api.Object {
	o := api.Object{Handle: h, Kind: kind, Parent: parent}
	switch kind {
	case api.KdMds:
		o.Parent = ""
	case api.KdCondition, api.KdLimit:
		o.Ref = "m"
	case api.KdSignal:
		o.Ref = "k"
	}
	return o
}

// P11.1: an object of each kind is created under each other one, and under what is not there.
func TestCreatedUnderEach(t *testing.T) {
	x, done := roomy(t), 0
	for kind := api.KdMds; kind <= api.KdContext; kind++ {
		for _, p := range append(bed(), api.Object{Handle: "q"}, api.Object{Handle: "w"}) {
			e := asPlain(t, "created", x, []api.Change{create(sample(kind, "w", p.Handle))})
			may := kind == api.KdMds || slices.Contains(parentsOf[kind], p.Kind)
			if may == (e == api.ErrParent) {
				t.Errorf("%d under %s: %d", kind, p.Handle, e)
			}
			if e == api.OK {
				done++
			}
		}
	}
	if done < 22 {
		t.Errorf("only %d created", done)
	}
}

// P11.1: a whole device is created by one set, in many orders; without any one of its objects on which others hang it is not.
func TestCreatedWithItsParents(t *testing.T) {
	var d dice
	device := []api.Object{
		{Handle: "f", Kind: api.KdMds},
		{Handle: "b", Kind: api.KdVmd, Parent: "f"},
		{Handle: "z", Kind: api.KdChannel, Parent: "b"},
		{Handle: "a", Kind: api.KdMetric, Parent: "z", Hi: 9},
		{Handle: "u", Kind: api.KdAlertSystem, Parent: "b"},
		{Handle: "r", Kind: api.KdLimit, Parent: "u", Ref: "a", High: 9},
		{Handle: "q", Kind: api.KdSignal, Parent: "u", Ref: "r"},
		{Handle: "i", Kind: api.KdContext, Parent: "f", Assoc: api.AsYes},
	}
	lacking := map[string]api.Errno{"f": api.ErrParent, "b": api.ErrParent, "z": api.ErrParent, "a": api.ErrRef, "u": api.ErrParent, "r": api.ErrRef}
	for _, x := range []*tree.Tree{roomy(t), plant(t, 8, nil), plant(t, 28, bed())} {
		for range 100 {
			set := mix(&d, news(device))
			says(t, "all of it", x, api.OK, set...)
			i := d.below(len(set))
			says(t, "one less", x, lacking[set[i].O.Handle], slices.Delete(slices.Clone(set), i, i+1)...)
			says(t, "one under what goes", after(t, x, set...), lacking[set[i].O.Handle], gone(set[i].O.Handle))
			says(t, "gone again", after(t, x, set...), api.OK, all(change.Handles(set)...)...)
		}
	}
	for _, l := range [][]api.Object{device[:2], {device[1], device[0]}} {
		says(t, "either order", roomy(t), api.OK, news(l)...)
	}
}

// subsets calls with each subset of at most that many of the list's elements.
func subsets[T any](l []T, most int, with func(part []T)) {
	var grow func(part []T, from int)
	grow = func(part []T, from int) {
		with(part)
		if len(part) == most {
			return
		}
		for i := from; i < len(l); i++ {
			grow(append(part[:len(part):len(part)], l[i]), i+1)
		}
	}
	grow(nil, 0)
}

// P11.1, P11.4: all kids of what is deleted, and all that refers to it, deleted with it or left.
func TestAllDeletions(t *testing.T) {
	x := roomy(t)
	told := map[api.Errno]int{}
	handles := func(l []api.Object) []string {
		var names []string
		for _, o := range l {
			names = append(names, o.Handle)
		}
		return names
	}
	subsets(handles(bed()), 3, func(part []string) { told[asPlain(t, "deleted", x, all(part...))]++ })
	subsets(handles(bed()[1:11]), 8, func(part []string) { told[asPlain(t, "deleted", x, all(part...))]++ })
	for _, e := range []api.Errno{api.OK, api.ErrParent, api.ErrRef} {
		if told[e] < 20 {
			t.Errorf("%d only %d times", e, told[e])
		}
	}
	if len(told) != 3 {
		t.Errorf("errors: %v", told)
	}
}

// full gives bed with as many objects like o as there may be under its parent, and how many it has of them.
func full(o api.Object, most int) []api.Object {
	l := bed()
	for _, p := range l {
		if p.Parent == o.Parent && (p.Kind == o.Kind || p.Kind >= api.KdCondition && p.Kind <= api.KdLimit && o.Kind >= api.KdCondition && o.Kind <= api.KdLimit) {
			most--
		}
	}
	return append(l, several(most, o)...)
}

// P11.1: as many kids of a kind, or of a group, as there may be, and one more; created one by one, and together, and in another's place.
func TestAsManyAsThereMayBe(t *testing.T) {
	for _, s := range []struct {
		o     api.Object
		most  int
		other string // one of its group that nothing hangs on
	}{
		{sample(api.KdMds, "a", ""), 4, ""},
		{sample(api.KdVmd, "a", "d"), 8, ""},
		{sample(api.KdChannel, "a", "v"), 8, ""},
		{sample(api.KdMetric, "a", "c"), 16, ""},
		{sample(api.KdAlertSystem, "a", "e.v"), 1, ""},
		{sample(api.KdCondition, "a", "s"), 16, "g"},
		{sample(api.KdSignal, "a", "s"), 16, "h"},
		{sample(api.KdLimit, "a", "s"), 16, "g"},
		{sample(api.KdLimit, "a", "t"), 16, "n"},
		{sample(api.KdContext, "a", "d"), 8, "y"},
	} {
		l := full(s.o, s.most)
		more := l[len(bed()):]
		x := plant(t, 64, l)
		last := with(s.o, func(o *api.Object) { o.Handle = "zz" })
		says(t, "one more", x, api.ErrMany, create(last))
		says(t, "in the place of another one", x, api.OK, create(last), gone(more[0].Handle))
		if s.other != "" {
			says(t, "in the place of "+s.other, x, api.OK, gone(s.other), create(last))
		}
		says(t, "others go on", x, api.OK, state(of("l")), desc(of("m")), create(sample(api.KdContext, "zz", "e")))
		together(t, more, last)
	}
}

// together creates these objects one by one, as far as they are more than 7, and the others at once; and then with one that is too many.
func together(t *testing.T, more []api.Object, last api.Object) {
	t.Helper()
	first := max(0, len(more)-7)
	x := plant(t, 64, bed())
	for _, o := range more[:first] {
		says(t, "one by one", x, api.OK, create(o))
		x = after(t, x, create(o))
	}
	says(t, "together", x, api.OK, news(more[first:])...)
	says(t, "one too many", x, api.ErrMany, append([]api.Change{create(last)}, news(more[first:])...)...)
}

// P11.1: conditions, signals and limits count together, whichever there are, and those under another alert system do not.
func TestAlertsCountTogether(t *testing.T) {
	kinds := []uint8{api.KdCondition, api.KdSignal, api.KdLimit}
	for _, kind := range kinds {
		for _, other := range kinds {
			l := full(sample(kind, "a", "s"), 16)
			l = append(l[:len(l)-1], sample(other, "b", "s"))
			x := plant(t, 64, l)
			for _, third := range kinds {
				says(t, "a 17th", x, api.ErrMany, create(sample(third, "z", "s")))
				says(t, "a 16th", x, api.OK, create(sample(third, "z", "s")), gone("b"))
			}
			says(t, "elsewhere", x, api.OK, create(sample(api.KdLimit, "z", "t")))
		}
	}
}

// P11.1: each object that refers to another one, created so or changed so, with each Ref.
func TestAllRefs(t *testing.T) {
	x, done := roomy(t), 0
	for _, o := range bed() {
		if o.Ref == "" {
			continue
		}
		for _, to := range append(bed(), api.Object{Handle: "q"}, api.Object{Handle: "z"}) {
			o.Ref = to.Handle
			changed := asPlain(t, "changed", x, []api.Change{desc(o)})
			created := asPlain(t, "created", x, []api.Change{create(with(o, func(o *api.Object) { o.Handle = "z" }))})
			if created != changed {
				t.Errorf("%s to %s: changed so %d, created so %d", o.Handle, to.Handle, changed, created)
			}
			if created == api.OK {
				done++
			}
			asPlain(t, "to what goes", x, []api.Change{desc(o), gone(to.Handle)})
			asPlain(t, "to what goes", x, []api.Change{gone(to.Handle), desc(o)})
		}
	}
	if done != 8 { // l, k and n to m, e.k to e.m, g and h to k and l each
		t.Errorf("%d may refer, not 8", done)
	}
	says(t, "to what comes", x, api.OK, create(sample(api.KdMetric, "z", "c")), desced("k", func(o *api.Object) { o.Ref = "z" }))
	says(t, "to what comes", x, api.OK, desced("g", func(o *api.Object) { o.Ref = "z" }), create(sample(api.KdLimit, "z", "s")))
	says(t, "to what comes elsewhere", x, api.ErrRef, create(sample(api.KdMetric, "z", "e.c")), desced("k", func(o *api.Object) { o.Ref = "z" }))
	says(t, "to another one than what goes", x, api.OK, desced("g", func(o *api.Object) { o.Ref = "k" }), gone("l"))
}

// P11.1: limits that are moved, and metrics under them whose range is.
func TestLimitsAndRanges(t *testing.T) {
	x := after(t, roomy(t), gone("n"), state(api.Object{Handle: "m", Kind: api.KdMetric}))
	both := func(low, high, lo, hi int64) []api.Change {
		return []api.Change{stated("l", func(o *api.Object) { o.Low, o.High = low, high }), desced("m", func(o *api.Object) { o.Lo, o.Hi = lo, hi })}
	}
	for _, low := range []int64{-12, -11, -10, -9, 0, 1} {
		for _, high := range []int64{1, 2, 99, 100, 101, 102} {
			e := api.ErrLimit
			if low >= -10 && high <= 100 {
				e = api.OK
			}
			says(t, "moved", x, e, both(low, high, 0, 0)[0])
			says(t, "moved with its range", x, api.OK, both(low, high, low, high)...)
			says(t, "moved below its range", x, api.ErrLimit, both(low, high, low+1, max(high, low+1))...)
			says(t, "moved above its range", x, api.ErrLimit, both(low, high, min(low, high-1), high-1)...)
		}
	}
	for _, lo := range []int64{-20, 0, 1, 2, 3} {
		for _, hi := range []int64{98, 99, 100, 200} {
			e := api.ErrLimit
			if lo <= 1 && hi >= 99 {
				e = api.OK
			}
			says(t, "narrowed", x, e, both(0, 0, lo, hi)[1])
		}
	}
	n := int64(api.MaxNumber)
	says(t, "all numbers", x, api.OK, both(-n, n, -n, n)...)
	says(t, "all but one", x, api.ErrLimit, both(-n, n, -n, n-1)...)
	says(t, "narrowed, and the limit goes", x, api.OK, append(all("l", "g"), both(0, 0, 2, 3)[1])...)
	x = after(t, x, both(0, 0, -10, 100)...)
	says(t, "narrowed, and the limit has another metric", x, api.OK, create(sample(api.KdMetric, "z", "c")), desced("l", func(o *api.Object) { o.Ref = "z" }), both(0, 0, 2, 3)[1])
	says(t, "narrowed as well as the other metric", x, api.ErrLimit, create(with(sample(api.KdMetric, "z", "c"), func(o *api.Object) { o.Lo, o.Hi = 1, 2 })), desced("l", func(o *api.Object) { o.Ref = "z" }), both(0, 0, 2, 3)[1])
}

// P11.1: contexts of each Type and Assoc beside one of Type 1 that is AsYes, created and changed so, under its parent and under another one.
func TestContexts(t *testing.T) {
	x := after(t, roomy(t), gone("e.x"))
	for kind := range uint8(4) {
		for assoc := range uint8(4) {
			e := api.OK
			if kind == 1 && assoc == api.AsYes {
				e = api.ErrAssoc
			}
			o := api.Object{Handle: "z", Kind: api.KdContext, Parent: "d", Type: kind, Assoc: assoc}
			says(t, "created", x, e, create(o))
			says(t, "created in its place", x, api.OK, create(o), gone("x"))
			says(t, "created as it changes", x, api.OK, create(o), stated("x", func(o *api.Object) { o.Assoc = api.AsNo }))
			says(t, "as it gets another type", x, api.OK, gone("y"), desced("x", func(o *api.Object) { o.Type = (kind + 1) % 4 }), create(o))
			o.Parent = "e"
			says(t, "created elsewhere", x, api.OK, create(o))
			if kind == 1 {
				o.Handle = "y"
				says(t, "changed", x, e, state(o))
				says(t, "changed, and the other one", x, api.OK, state(o), stated("x", func(o *api.Object) { o.Assoc = api.AsPre }))
			}
		}
	}
	other := create(api.Object{Handle: "z", Kind: api.KdContext, Parent: "d", Type: 2, Assoc: api.AsYes})
	says(t, "of another type", after(t, x, other), api.ErrAssoc, desc(api.Object{Handle: "z", Kind: api.KdContext, Parent: "d", Type: 1}))
	says(t, "both of another type", after(t, x, other), api.OK, desc(api.Object{Handle: "z", Kind: api.KdContext, Parent: "d", Type: 1}), desced("x", func(o *api.Object) { o.Type = 2 }))
	says(t, "both of one type", after(t, x, other), api.ErrAssoc, desc(api.Object{Handle: "z", Kind: api.KdContext, Parent: "d", Type: 3}), desced("x", func(o *api.Object) { o.Type = 3 }))
}

// P11.1, P11.4: all subsets of changes that break a rule each; the least of these rules is told, in whatever order they stand.
func TestLeastRuleIsTold(t *testing.T) {
	var d dice
	x := roomy(t)
	rules := []struct {
		c api.Change
		e api.Errno
	}{
		{stated("m", func(o *api.Object) { o.Value = 101 }), api.ErrRange},
		{gone("e.c"), api.ErrParent},
		{create(sample(api.KdAlertSystem, "w", "d")), api.ErrMany},
		{desced("k", func(o *api.Object) { o.Ref = "g" }), api.ErrRef},
		{stated("n", func(o *api.Object) { o.High = 101 }), api.ErrLimit},
		{stated("y", func(o *api.Object) { o.Assoc = api.AsYes }), api.ErrAssoc},
	}
	for bits := range 1 << len(rules) {
		var set []api.Change
		e := api.OK
		for i, r := range rules {
			if bits>>i&1 == 0 {
				continue
			}
			set = append(set, r.c)
			if e == api.OK {
				e = r.e
			}
		}
		for range 4 {
			says(t, "several", x, e, mix(&d, set)...)
			says(t, "several, and others", x, e, mix(&d, append(slices.Clone(set), gone("g"), state(of("s"))))...)
		}
	}
}

// P11.1: several faults in one set: they are told, and nothing of greater rules.
func TestSeveralFaults(t *testing.T) {
	x := plant(t, 64, append(bed(), several(8, with(sample(api.KdMetric, "a", "c"), func(o *api.Object) { o.Hi = 5 }))...))
	for n := 1; n <= 8; n++ {
		var set []api.Change
		for i := range n {
			set = append(set, state(api.Object{Handle: "a" + strconv.Itoa(i), Kind: api.KdMetric, Has: true, Value: int64(i)}))
		}
		e := api.OK
		if n > 6 {
			e = api.ErrRange
		}
		says(t, "values", x, e, set...)
		slices.Reverse(set)
		says(t, "values, in reverse", x, e, set...)
	}
}

// dice gives numbers in an order that is always the same.
type dice uint64

func (d *dice) below(n int) int {
	*d = *d*6364136223846793005 + 1442695040888963407
	return int(uint64(*d>>33) % uint64(n))
}

func pick[T any](d *dice, l []T) T {
	return l[d.below(len(l))]
}

func mix[T any](d *dice, l []T) []T {
	l = slices.Clone(l)
	for i := range l {
		j := d.below(i + 1)
		l[i], l[j] = l[j], l[i]
	}
	return l
}

// kin gives the handle of one of the list's objects of these kinds, or, if there is none and now and then, any of the names.
func kin(d *dice, l []api.Object, kinds []uint8, names []string) string {
	l = slices.DeleteFunc(slices.Clone(l), func(o api.Object) bool { return !slices.Contains(kinds, o.Kind) })
	if len(l) == 0 || d.below(20) == 0 {
		return pick(d, names)
	}
	return pick(d, l).Handle
}

// some gives an object of any kind, mostly under one of the list, and referring to one of it, that are of the right kinds.
func some(d *dice, l []api.Object, h string, names []string) api.Object {
	often := []uint8{1, 2, 2, 3, 3, 4, 4, 4, 5, 5, 6, 6, 7, 7, 8, 8, 8, 8, 9, 9, 9, 9}
	o := api.Object{Handle: h, Kind: pick(d, often)}
	for range 6 {
		if o.Kind == api.KdMds || slices.ContainsFunc(l, func(p api.Object) bool { return slices.Contains(parentsOf[o.Kind], p.Kind) }) {
			break
		}
		o.Kind = pick(d, often)
	}
	if o.Kind != api.KdMds {
		o.Parent = kin(d, l, parentsOf[o.Kind], names)
	}
	refer(d, l, &o, names)
	fill(d, &o)
	return o
}

func refer(d *dice, l []api.Object, o *api.Object, names []string) {
	if len(refersTo[o.Kind]) > 0 {
		o.Ref = kin(d, l, refersTo[o.Kind], names)
	}
}

// fill gives the object other contents, mostly without fault, and never such that a change with them is not valid.
func fill(d *dice, o *api.Object) {
	switch o.Kind {
	case api.KdMetric:
		o.Lo, o.Hi, o.Digits, o.Has, o.Value = -int64(d.below(3)), int64(d.below(3)), uint8(d.below(7)), d.below(2) == 0, 0
		if o.Has {
			o.Value = o.Lo + int64(d.below(int(o.Hi-o.Lo)+1))
		}
	case api.KdLimit:
		o.Type, o.Low, o.High = uint8(d.below(4)), -int64(d.below(2)), int64(d.below(2))
	case api.KdCondition:
		o.Type, o.On = uint8(d.below(4)), d.below(2) == 0
	case api.KdSignal, api.KdAlertSystem:
		o.On = d.below(2) == 0
	case api.KdContext:
		o.Type, o.Assoc = uint8(d.below(2)), uint8(d.below(4))
	}
}

// someSet gives a set of at most that many changes of these handles, which mostly can be applied to the list, and often lead to another rule being broken.
func someSet(d *dice, l []api.Object, names []string, most int) []api.Change {
	var set []api.Change
	l = slices.Clone(l)
	for _, h := range mix(d, names)[:d.below(min(most, len(names))+1)] {
		o, there := wf.Find(l, h)
		switch {
		case there == (d.below(30) == 0):
			o = some(d, l, h, names)
			l = append(l, o)
			set = append(set, create(o))
		case d.below(3) == 0:
			set = append(set, gone(h))
			if d.below(2) == 0 {
				set = append(set, follow(d, l, set)...)
			}
		case d.below(2) == 0:
			fill(d, &o)
			set = append(set, state(o))
		default:
			fill(d, &o)
			refer(d, l, &o, names)
			set = append(set, desc(o))
		}
	}
	return distinct(set)[:min(most, len(distinct(set)))]
}

// follow gives deletions of what is under, or refers to, what the set deletes.
func follow(d *dice, l []api.Object, set []api.Change) []api.Change {
	var more []api.Change
	for _, c := range slices.Concat(set, set) {
		for _, o := range l {
			if c.Kind == api.CgDelete && (o.Parent == c.O.Handle || o.Ref == c.O.Handle) {
				more = append(more, gone(o.Handle))
			}
		}
	}
	return more
}

// distinct gives the set without a second change of any handle.
func distinct(set []api.Change) []api.Change {
	var out []api.Change
	for _, c := range set {
		if !slices.ContainsFunc(out, func(b api.Change) bool { return b.O.Handle == c.O.Handle }) {
			out = append(out, c)
		}
	}
	return out
}

func names(n int) []string {
	var l []string
	for i := range n {
		l = append(l, "n"+strconv.Itoa(i))
	}
	return l
}

// P11.1 to P11.5: long sequences of sets that are done one after the other, each being held against the plain rules; what came of them is always well-formed.
func TestLongSequences(t *testing.T) {
	var d dice
	told := map[api.Errno]int{}
	for range 60 {
		pool, slots := names(4+d.below(30)), 1+d.below(40)
		x, e := Load(slots, nil)
		if e != api.OK {
			t.Fatal(e)
		}
		for range 150 {
			set := someSet(&d, x.All(), pool, 8)
			e := asPlain(t, "long", x, set)
			told[e]++
			if f := Do(x, set); f != e {
				t.Errorf("%v: %d, not %d", set, f, e)
			}
			if !wf.Well(x.All()) || x.Many() > slots {
				t.Fatalf("%v left a tree that is not well-formed: %v", set, x.All())
			}
		}
	}
	for _, e := range []api.Errno{api.OK, api.ErrTwice, api.ErrNone, api.ErrFull, api.ErrRange, api.ErrParent, api.ErrMany, api.ErrRef, api.ErrLimit, api.ErrAssoc} {
		if told[e] < 10 {
			t.Errorf("%d only %d times: %v", e, told[e], told)
		}
	}
}

// fewChanges are what all sets of few changes are made of.
func fewChanges() []api.Change {
	set := all("d", "v", "c", "m", "s", "l", "g", "n", "t", "x")
	for _, b := range breaches() {
		if len(b.set) == 1 && b.set[0].Kind != api.CgDelete && !strings.HasPrefix(b.set[0].O.Handle, "e.") {
			set = append(set, b.set[0])
		}
	}
	return append(set, create(sample(api.KdMetric, "q", "c")), create(sample(api.KdVmd, "w", "d")), desced("l", func(o *api.Object) { o.Ref = "m" }))
}

// P11.1, P11.2, P11.4, P11.5: all sets of at most two changes, in bed, with and without a free slot; and of three in a smaller one.
func TestAllSmallSets(t *testing.T) {
	for _, x := range []*tree.Tree{roomy(t), plant(t, 20, bed())} {
		tuples(fewChanges(), 2, func(set []api.Change) { asPlain(t, "small", x, set) })
	}
	x := plant(t, 11, bed()[:11])
	var few []api.Change
	for _, c := range fewChanges() {
		if c.Kind != api.CgState || c.O.Kind == api.KdLimit {
			few = append(few, c)
		}
	}
	subsets(few, 3, func(set []api.Change) { asPlain(t, "small", x, set) })
}

// tuples calls with each list of at most n elements of the pool.
func tuples[T any](pool []T, n int, with func(l []T)) {
	var grow func(l []T)
	grow = func(l []T) {
		with(l)
		if len(l) == n {
			return
		}
		for _, x := range pool {
			grow(append(l[:len(l):len(l)], x))
		}
	}
	grow(nil)
}

// P11.6: a set that can be applied in two parts can be applied as a whole, and the whole has the same result.
func TestComposition(t *testing.T) {
	var d dice
	parts := 0
	for i := range 300 {
		pool := names(6 + d.below(14))
		x, _ := Load(1+len(pool)-d.below(6), nil)
		for range 40 {
			Do(x, someSet(&d, x.All(), pool, 8))
		}
		set := someSet(&d, x.All(), pool, 6)
		if i%2 == 0 {
			set = append(set[:min(len(set), 4)], someSet(&d, x.All(), []string{"o1", "o2"}, 2)...)
		}
		for bits := range 1 << len(set) {
			parts += inParts(t, x, set, bits)
		}
	}
	if parts < 500 {
		t.Errorf("only %d sets went in two parts", parts)
	}
}

// inParts applies first the changes of the bits, then the others; if both can be done, it expects that the whole can, and gives 1.
func inParts(t *testing.T, x *tree.Tree, set []api.Change, bits int) int {
	t.Helper()
	var part [2][]api.Change
	for i, c := range set {
		part[bits>>i&1] = append(part[bits>>i&1], c)
	}
	y, whole := x.Copy(), x.Copy()
	if Do(y, part[1]) != api.OK || Do(y, part[0]) != api.OK {
		return 0
	}
	if e := Check(x, set); e != api.OK {
		t.Errorf("%v in %v: %d", set, x.All(), e)
	}
	if e := Do(whole, set); e != api.OK || !slices.Equal(whole.All(), y.All()) {
		t.Errorf("%v: as a whole %v %d, in parts %v", set, whole.All(), e, y.All())
	}
	return 1
}

// P11.6: parts that go one by one, and that go only as a whole.
func TestPartsAndWhole(t *testing.T) {
	x := plant(t, 20, bed())
	for _, set := range [][]api.Change{
		{gone("y"), create(sample(api.KdMetric, "z", "c"))},
		{gone("g"), gone("l"), create(sample(api.KdVmd, "w", "e")), create(sample(api.KdChannel, "w.c", "w"))},
		{stated("x", func(o *api.Object) { o.Assoc = api.AsNo }), stated("y", func(o *api.Object) { o.Assoc = api.AsYes })},
		{stated("n", func(o *api.Object) { o.Low = 0 }), desced("m", func(o *api.Object) { o.Lo = 0 })},
	} {
		half := len(set) / 2
		y := after(t, after(t, x, set[:half]...), set[half:]...)
		says(t, "the whole", x, api.OK, set...)
		if z := after(t, x, set...); !slices.Equal(y.All(), z.All()) {
			t.Errorf("%v: %v in parts, %v as a whole", set, y.All(), z.All())
		}
		slices.Reverse(set)
		says(t, "the whole in reverse", x, api.OK, set...)
		if e := Check(x, set[:1]); e == api.OK && len(set) == 2 {
			t.Errorf("%v went alone", set[0])
		}
	}
}

// layer9 are the errors of lists.
var layer9 = []api.Errno{api.ErrKind, api.ErrHandle, api.ErrNumber, api.ErrRange, api.ErrTwice, api.ErrParent, api.ErrMany, api.ErrRef, api.ErrLimit, api.ErrAssoc}

// unwell expects of a tree that need not be well-formed: the errors of layer 10 and ErrFull as the document says them, otherwise OK or an error of layer 9; and that the set is done whole, or not at all.
func unwell(t *testing.T, what string, x *tree.Tree, set []api.Change) api.Errno {
	t.Helper()
	before, y := take(x), x.Copy()
	out, e := change.Apply(before.objects, set)
	if e == api.OK && len(out) > x.Slots() {
		e = api.ErrFull
	}
	f := Check(x, set)
	switch {
	case e != api.OK && f != e, e == api.OK && f != api.OK && !slices.Contains(layer9, f):
		t.Errorf("%s: %v in %v: Check: %d, not %d", what, set, before.objects, f, e)
	}
	if g := Do(y, set); g != f {
		t.Errorf("%s: %v in %v: Do: %d, not %d", what, set, before.objects, g, f)
	}
	if f != api.OK && !before.is(y) || f == api.OK && (!slices.Equal(y.All(), out) || y.Many() != len(out)) {
		t.Errorf("%s: %v in %v: %d, but left: %v", what, set, before.objects, f, y.All())
	}
	keeps(t, what, x, y)
	undone(t, what, x, y, set, false)
	if !before.is(x) {
		t.Errorf("%s: %v: the tree was changed", what, set)
	}
	return f
}

// odd gives an object that may have any fault but that of its Handle.
func odd(d *dice, l []api.Object, h string, pool []string) api.Object {
	o := some(d, l, h, pool)
	for range d.below(3) {
		switch d.below(8) {
		case 0:
			o.Kind = pick(d, append(wrongKinds, 1, 2, 3, 4, 5, 6, 7, 8, 9))
		case 1:
			o.Parent = pick(d, append(strange[:4:4], pool...))
		case 2:
			o.Ref = pick(d, append(strange[:4:4], pool...))
		case 3:
			o.Lo, o.Hi = 5, -5
		case 4:
			o.Low, o.High = 8, api.MaxNumber+1
		case 5:
			o.Type, o.Digits, o.Assoc = 9, 9, api.AsYes
		case 6:
			o.On, o.Has, o.Value = true, false, 7
		case 7:
			o.Parent = h
		}
	}
	return o
}

// P11.1, P11.2: trees of objects of any sort, in any state.
func TestTreesThatAreNotWellFormed(t *testing.T) {
	var d dice
	told := map[api.Errno]int{}
	for range 1500 {
		pool := names(2 + d.below(12))
		var l []api.Object
		for _, h := range mix(&d, pool)[:1+d.below(len(pool))] {
			l = append(l, odd(&d, l, h, pool))
		}
		x := plant(t, len(l)+d.below(4), l)
		for range 10 {
			told[unwell(t, "unwell", x, someSet(&d, l, pool, 8))]++
			unwell(t, "nothing", x, nil)
		}
	}
	if told[api.OK] < 500 || told[api.ErrFull] < 50 || told[api.ErrRef] < 50 {
		t.Errorf("told: %v", told)
	}
}

// P11.1: objects under each other, round and round, with what refers across such a ring.
func TestRings(t *testing.T) {
	for n := 1; n <= 12; n++ {
		var l []api.Object
		for i := range n {
			l = append(l, api.Object{Handle: "r" + strconv.Itoa(i), Kind: []uint8{api.KdChannel, api.KdVmd, api.KdAlertSystem}[i%3], Parent: "r" + strconv.Itoa((i+1)%n)})
		}
		l = append(l, api.Object{Handle: "m", Kind: api.KdMetric, Parent: "r0", Hi: 5}, api.Object{Handle: "s", Kind: api.KdAlertSystem, Parent: "r0"}, api.Object{Handle: "k", Kind: api.KdLimit, Parent: "s", Ref: "m"})
		x := plant(t, 40, l)
		unwell(t, "state", x, []api.Change{state(api.Object{Handle: "k", Kind: api.KdLimit, High: 3})})
		unwell(t, "desc", x, []api.Change{desc(api.Object{Handle: "k", Kind: api.KdLimit, Parent: "s", Ref: "m", Type: 1})})
		unwell(t, "range", x, []api.Change{desc(api.Object{Handle: "m", Kind: api.KdMetric, Parent: "r0", Hi: -0})})
		unwell(t, "create", x, []api.Change{create(api.Object{Handle: "z", Kind: api.KdLimit, Parent: "s", Ref: "m"})})
		unwell(t, "create in the ring", x, []api.Change{create(api.Object{Handle: "z", Kind: api.KdVmd, Parent: "r0"}), create(api.Object{Handle: "z.z", Kind: api.KdVmd, Parent: "z"})})
		unwell(t, "delete", x, all("r0"))
		unwell(t, "delete", x, all("m", "r0"))
	}
}

// P11.1: a well-formed part of a tree that is not goes on, or is refused; it is never half done.
func TestNotWellFormedElsewhere(t *testing.T) {
	l := append(bed(), api.Object{Handle: "q", Kind: 99}, api.Object{Handle: "r", Kind: api.KdVmd, Parent: "gone"})
	x := plant(t, 24, l)
	for _, b := range breaches() {
		unwell(t, b.what, x, b.set)
	}
	unwell(t, "it is healed", x, []api.Change{gone("q"), gone("r")})
	unwell(t, "its kind is none", x, []api.Change{state(api.Object{Handle: "q", Kind: api.KdMds})})
	unwell(t, "many", x, append(all("q", "r", "g", "l"), news(several(4, sample(api.KdMetric, "w", "c")))...))
	unwell(t, "too many", x, append(all("q"), news(several(4, sample(api.KdMetric, "w", "c")))...))
}

// P11.2: the inverse, whether what comes of the set is well-formed, fits the slots, or not.
func TestUndo(t *testing.T) {
	x := plant(t, 20, bed())
	for _, s := range []struct{ set, want []api.Change }{
		{[]api.Change{create(sample(api.KdVmd, "z", "q"))}, all("z")},
		{[]api.Change{create(sample(api.KdMds, "z", ""))}, all("z")},
		{all("d"), []api.Change{create(of("d"))}},
		{all("l", "g"), []api.Change{create(of("l")), create(of("g"))}},
		{[]api.Change{stated("m", func(o *api.Object) { o.Value = 101 })}, []api.Change{state(of("m"))}},
		{[]api.Change{desced("l", func(o *api.Object) { o.Ref = "q" })}, []api.Change{desc(of("l"))}},
		{[]api.Change{gone("y"), state(api.Object{Handle: "x", Kind: api.KdContext}), desced("m", func(o *api.Object) { o.Lo = 7 })}, []api.Change{create(of("y")), state(of("x")), desc(of("m"))}},
	} {
		back, e := Undo(x, s.set)
		if e != api.OK || !slices.Equal(back, s.want) {
			t.Errorf("%v: %v %d, not %v", s.set, back, e, s.want)
		}
	}
	for _, s := range []struct {
		set []api.Change
		e   api.Errno
	}{{all("zz"), api.ErrNone}, {all("y", "y"), api.ErrChange}, {[]api.Change{create(of("d"))}, api.ErrTwice}, {[]api.Change{state(api.Object{Handle: "d", Kind: api.KdVmd})}, api.ErrKind}, {[]api.Change{desced("v", func(o *api.Object) { o.Parent = "e" })}, api.ErrParent}} {
		if back, e := Undo(x, s.set); e != s.e || back != nil {
			t.Errorf("%v: %v %d, not %d", s.set, back, e, s.e)
		}
	}
}

// P11.5: what was deleted comes back by the inverse, wherever the slots were, and the tree goes on.
func TestThereAndBack(t *testing.T) {
	var d dice
	x := plant(t, 20, mix(&d, bed()))
	for range 200 {
		set := someSet(&d, x.All(), append(names(3), "g", "h", "l", "k", "n", "y", "x", "m", "e.x", "e.k"), 8)
		back, _ := Undo(x, set)
		was := take(x)
		if Do(x, set) != api.OK {
			if !was.is(x) {
				t.Fatalf("%v was refused, and left %v", set, x.All())
			}
			continue
		}
		if e := Do(x, back); e != api.OK || !slices.Equal(x.All(), was.objects) || !slices.Equal(x.Walk(), was.walk) {
			t.Fatalf("%v, and back by %v: %d %v", set, back, e, x.All())
		}
	}
}

// P11.1, P11.2: what is handed in is not kept, and what is returned belongs to who asked.
func TestResultsAreNew(t *testing.T) {
	x := roomy(t)
	set := []api.Change{desced("m", func(o *api.Object) { o.Digits = 3 }), gone("g"), create(sample(api.KdMds, "z", ""))}
	want, _ := plain(x.All(), 40, set)
	back, _ := Undo(x, set)
	keep := slices.Clone(back)
	if e := Do(x, set); e != api.OK {
		t.Fatal(e)
	}
	clear(set)
	if !slices.Equal(x.All(), want) || !slices.Equal(back, keep) {
		t.Error("changed by what was done to the set")
	}
	clear(back)
	if !slices.Equal(x.All(), want) {
		t.Error("changed by what was done to the inverse")
	}
	l := bed()
	y, _ := Load(30, l)
	was := take(y)
	clear(l)
	if !was.is(y) || !slices.Equal(y.All(), plant(t, 20, bed()).All()) {
		t.Error("changed by what was done to the list")
	}
}

// loaded expects what Load makes of the list, which it leaves as it is.
func loaded(t *testing.T, what string, slots int, l []api.Object, e api.Errno) {
	t.Helper()
	before := slices.Clone(l)
	x, f := Load(slots, l)
	if f != e || (x == nil) != (e != api.OK) {
		t.Errorf("%s: in %d slots %d, not %d", what, slots, f, e)
	}
	if !slices.Equal(l, before) {
		t.Errorf("%s: the list was changed", what)
	}
	if e != api.OK || x == nil {
		return
	}
	if y := plant(t, 64, l); !slices.Equal(x.All(), y.All()) || !slices.Equal(x.Walk(), y.Walk()) || x.Slots() != slots || x.Many() != len(l) {
		t.Errorf("%s: %v in %d slots", what, x.All(), x.Slots())
	}
	keeps(t, what, x, x)
	if f := Check(x, nil); f != api.OK {
		t.Errorf("%s: goes on with %d", what, f)
	}
}

// P11.3: any number of slots, with lists that are well-formed, and that are not.
func TestLoad(t *testing.T) {
	var d dice
	unlike := append(bed(), api.Object{Handle: "zz", Kind: api.KdVmd, Parent: "q"})
	for _, slots := range []int{-1 << 62, -100, -2, -1, 0, 65, 66, 100, 1 << 40} {
		loaded(t, "no slots", slots, nil, api.ErrArg)
		loaded(t, "no slots", slots, bed(), api.ErrArg)
		loaded(t, "no slots, not well", slots, unlike, api.ErrArg)
	}
	for slots := 1; slots <= 64; slots++ {
		e := api.OK
		if slots < 20 {
			e = api.ErrFull
		}
		loaded(t, "nothing", slots, nil, api.OK)
		loaded(t, "nothing", slots, []api.Object{}, api.OK)
		loaded(t, "bed", slots, bed(), e)
		loaded(t, "in another order", slots, mix(&d, bed()), e)
		loaded(t, "not well", slots, unlike, api.ErrParent)
		loaded(t, "not well", slots, mix(&d, unlike), api.ErrParent)
	}
	back := bed()
	slices.Reverse(back)
	loaded(t, "in reverse", 20, back, api.OK)
}

// P11.3: lists that break a rule each, and several: the error is that of layer 9, also where there would be too many for the slots.
func TestLoadOfListsThatAreNotWell(t *testing.T) {
	var d dice
	for _, b := range breaches() {
		l, _ := change.Apply(bed(), b.set)
		loaded(t, b.what, 40, l, b.e)
		loaded(t, b.what, 1, mix(&d, l), b.e)
	}
	loaded(t, "twice", 40, append(bed(), of("y")), api.ErrTwice)
	loaded(t, "twice", 3, append(bed(), of("y")), api.ErrTwice)
	loaded(t, "five devices", 4, several(5, of("d")), api.ErrMany)
	loaded(t, "zero objects", 40, make([]api.Object, 3), api.ErrKind)
	for _, h := range strange {
		loaded(t, "no handle", 40, append(bed(), api.Object{Handle: h, Kind: api.KdMds}), api.ErrHandle)
	}
	for _, kind := range wrongKinds {
		loaded(t, "no kind", 40, append(bed(), api.Object{Handle: "z", Kind: kind}), api.ErrKind)
	}
	for range 500 {
		pool := names(8)
		var l []api.Object
		for range d.below(8) {
			l = append(l, odd(&d, l, pick(&d, pool), pool))
		}
		loaded(t, "odd", 40, l, wf.Check(l))
	}
}

// P11.3: as many objects as there may be, and one more.
func TestLoadOfMany(t *testing.T) {
	var l []api.Object
	for _, d := range several(4, api.Object{Handle: "d", Kind: api.KdMds}) {
		l = append(l, d)
		for _, v := range several(8, api.Object{Handle: d.Handle + "v", Kind: api.KdVmd, Parent: d.Handle}) {
			l = append(l, v, api.Object{Handle: v.Handle + "s", Kind: api.KdAlertSystem, Parent: v.Handle})
		}
	}
	if e := wf.Check(l); e != api.OK || len(l) != 68 {
		t.Fatal(e, len(l))
	}
	loaded(t, "64", 64, l[:64], api.OK)
	loaded(t, "65", 64, l[:65], api.ErrFull)
	loaded(t, "68", 64, l, api.ErrFull)
	loaded(t, "63", 63, l[:63], api.OK)
	loaded(t, "64 of 63", 63, l[:64], api.ErrFull)
}

// P11.5: trees that were loaded are independent of each other.
func TestLoadedTreesStandAlone(t *testing.T) {
	x, _ := Load(24, bed())
	y, _ := Load(24, bed())
	was := take(y)
	if e := Do(x, all("y", "g")); e != api.OK || !was.is(y) {
		t.Errorf("%d %v", e, y.All())
	}
	if slices.ContainsFunc(x.All(), func(o api.Object) bool { return object.May(o) != api.OK }) {
		t.Error("a fault in what was loaded")
	}
}
