package wf

import (
	"slices"
	"strconv"
	"strings"
	"testing"

	"bedside/api"
	"bedside/object"
)

// parentsOf says which kinds each kind may be under; a KdMds is under none.
var parentsOf = map[uint8][]uint8{
	api.KdVmd:         {api.KdMds},
	api.KdChannel:     {api.KdVmd},
	api.KdMetric:      {api.KdChannel},
	api.KdAlertSystem: {api.KdMds, api.KdVmd},
	api.KdCondition:   {api.KdAlertSystem},
	api.KdSignal:      {api.KdAlertSystem},
	api.KdLimit:       {api.KdAlertSystem},
	api.KdContext:     {api.KdMds},
}

var refersTo = map[uint8][]uint8{
	api.KdCondition: {api.KdMetric},
	api.KdLimit:     {api.KdMetric},
	api.KdSignal:    {api.KdCondition, api.KdLimit},
}

// groupOf says as which kind each kind is counted, and mostOf how many of these there may be.
var (
	groupOf = map[uint8]uint8{1: 1, 2: 2, 3: 3, 4: 4, 5: 5, 6: 6, 7: 6, 8: 6, 9: 9}
	mostOf  = map[uint8]int{1: 4, 2: 8, 3: 8, 4: 16, 5: 1, 6: 16, 9: 8}
)

// strange are strings that are no handles.
var strange = []string{"", "-", ".", ".a", "_", "1", "1a", "A", "aB", "a.", "a..b", "a b", " a", "a ", "a\x00", "\x00", "\x80", "\xff", "a\xff", "\xc3\xa4", "{", "abcdefghijklmnopq", strings.Repeat("z", 1000)}

// wrongKinds are kinds that do not exist.
var wrongKinds = []uint8{0, 10, 11, 15, 16, 17, 63, 64, 128, 254, 255}

// bed gives a well-formed list with each kind in it, each of its objects being known by its handle: two devices d and e, and what is under them.
func bed() []api.Object {
	return []api.Object{
		{Handle: "d", Kind: api.KdMds},
		{Handle: "v", Kind: api.KdVmd, Parent: "d"},
		{Handle: "c", Kind: api.KdChannel, Parent: "v"},
		{Handle: "m", Kind: api.KdMetric, Parent: "c", Lo: -10, Hi: 100, Digits: 1, Has: true, Value: 37},
		{Handle: "s", Kind: api.KdAlertSystem, Parent: "v", On: true},
		{Handle: "l", Kind: api.KdLimit, Parent: "s", Ref: "m", Low: 1, High: 99},
		{Handle: "k", Kind: api.KdCondition, Parent: "s", Ref: "m", Type: 2},
		{Handle: "g", Kind: api.KdSignal, Parent: "s", Ref: "l"},
		{Handle: "h", Kind: api.KdSignal, Parent: "s", Ref: "k"},
		{Handle: "t", Kind: api.KdAlertSystem, Parent: "d"},
		{Handle: "n", Kind: api.KdLimit, Parent: "t", Ref: "m", Low: -10, High: 100},
		{Handle: "x", Kind: api.KdContext, Parent: "d", Type: 1, Assoc: api.AsYes},
		{Handle: "y", Kind: api.KdContext, Parent: "d", Type: 1, Assoc: api.AsPre},
		{Handle: "e", Kind: api.KdMds},
		{Handle: "e.v", Kind: api.KdVmd, Parent: "e"},
		{Handle: "e.c", Kind: api.KdChannel, Parent: "e.v"},
		{Handle: "e.m", Kind: api.KdMetric, Parent: "e.c", Hi: 5},
		{Handle: "e.s", Kind: api.KdAlertSystem, Parent: "e"},
		{Handle: "e.k", Kind: api.KdCondition, Parent: "e.s", Ref: "e.m"},
		{Handle: "e.x", Kind: api.KdContext, Parent: "e", Type: 1, Assoc: api.AsYes},
	}
}

// placeOf gives where the object with that handle stands in the list.
func placeOf(l []api.Object, h string) int {
	return slices.IndexFunc(l, func(o api.Object) bool { return o.Handle == h })
}

// with gives bed, the object with that handle being changed.
func with(h string, change func(o *api.Object)) []api.Object {
	l := bed()
	change(&l[placeOf(l, h)])
	return l
}

// and gives bed with more objects.
func and(more ...api.Object) []api.Object {
	return append(bed(), more...)
}

// but gives the list without the objects with these handles.
func but(l []api.Object, gone ...string) []api.Object {
	return slices.DeleteFunc(slices.Clone(l), func(o api.Object) bool { return slices.Contains(gone, o.Handle) })
}

// expect holds Check, Rule and Well of the list against what is expected, and the list against what it was.
func expect(t *testing.T, what string, l []api.Object, rule int, e api.Errno) {
	t.Helper()
	before := slices.Clone(l)
	if r := Rule(l); r != rule {
		t.Errorf("%s: rule %d, not %d", what, r, rule)
	}
	if got := Check(l); got != e {
		t.Errorf("%s: error %d, not %d", what, got, e)
	}
	if Well(l) != (rule == 0) {
		t.Errorf("%s: well: %v", what, rule != 0)
	}
	if !slices.Equal(l, before) {
		t.Errorf("%s: the list was changed", what)
	}
}

// plain gives the least rule that the list breaks, and its error, as the document says them, by going through the whole list for each object.
func plain(l []api.Object) (int, api.Errno) {
	for i, error := range []func([]api.Object) api.Errno{plain1, plain2, plain3, plain4, plain5, plain6, plain7} {
		if e := error(l); e != api.OK {
			return i + 1, e
		}
	}
	return 0, api.OK
}

func plain1(l []api.Object) api.Errno {
	l = slices.Clone(l)
	slices.SortStableFunc(l, func(a, b api.Object) int { return strings.Compare(a.Handle, b.Handle) })
	for _, o := range l {
		if e := object.May(o); e != api.OK {
			return e
		}
	}
	return api.OK
}

func plain2(l []api.Object) api.Errno {
	for i := range l {
		for j := range i {
			if l[i].Handle == l[j].Handle {
				return api.ErrTwice
			}
		}
	}
	return api.OK
}

func plain3(l []api.Object) api.Errno {
	for _, o := range l {
		found := o.Kind == api.KdMds
		for _, p := range l {
			found = found || p.Handle == o.Parent && slices.Contains(parentsOf[o.Kind], p.Kind)
		}
		if !found {
			return api.ErrParent
		}
	}
	return api.OK
}

func plain4(l []api.Object) api.Errno {
	for _, o := range l {
		n := 0
		for _, p := range l {
			if p.Parent == o.Parent && groupOf[p.Kind] == groupOf[o.Kind] {
				n++
			}
		}
		if n > mostOf[groupOf[o.Kind]] {
			return api.ErrMany
		}
	}
	return api.OK
}

// plainMds gives the KdMds of an object of a list that breaks none of the rules 1 to 3.
func plainMds(l []api.Object, o api.Object) string {
	for o.Kind != api.KdMds {
		o = l[placeOf(l, o.Parent)]
	}
	return o.Handle
}

func plain5(l []api.Object) api.Errno {
	for _, o := range l {
		found := false
		for _, to := range l {
			switch o.Kind {
			case api.KdCondition, api.KdLimit:
				found = found || to.Handle == o.Ref && to.Kind == api.KdMetric && plainMds(l, to) == plainMds(l, o)
			case api.KdSignal:
				found = found || to.Handle == o.Ref && (to.Kind == api.KdCondition || to.Kind == api.KdLimit) && to.Parent == o.Parent
			default:
				found = true
			}
		}
		if !found {
			return api.ErrRef
		}
	}
	return api.OK
}

func plain6(l []api.Object) api.Errno {
	for _, o := range l {
		for _, m := range l {
			if o.Kind == api.KdLimit && m.Handle == o.Ref && (o.Low < m.Lo || o.Low > m.Hi || o.High < m.Lo || o.High > m.Hi) {
				return api.ErrLimit
			}
		}
	}
	return api.OK
}

func plain7(l []api.Object) api.Errno {
	for i, a := range l {
		for _, b := range l[:i] {
			if a.Kind == api.KdContext && b.Kind == api.KdContext && a.Assoc == api.AsYes && b.Assoc == api.AsYes && a.Parent == b.Parent && a.Type == b.Type {
				return api.ErrAssoc
			}
		}
	}
	return api.OK
}

// asPlain holds what is told of the list against the plain rules.
func asPlain(t *testing.T, l []api.Object) {
	t.Helper()
	rule, e := plain(l)
	if Rule(l) != rule || Check(l) != e || Well(l) != (rule == 0) {
		t.Fatalf("%d %d %v, not %d %d: %v", Rule(l), Check(l), Well(l), rule, e, l)
	}
}

// dice gives numbers in an order that is always the same.
type dice uint64

func (d *dice) below(n int) int {
	*d = *d*6364136223846793005 + 1442695040888963407
	return int(uint64(*d>>33) % uint64(n))
}

func pick[T any](d *dice, l []T) T {
	return l[d.below(len(l))]
}

// mix gives the list in another order.
func mix(d *dice, l []api.Object) []api.Object {
	l = slices.Clone(l)
	for i := range l {
		j := d.below(i + 1)
		l[i], l[j] = l[j], l[i]
	}
	return l
}

// kin gives the handle of one of the list's objects of these kinds, or, if there is none and now and then, any of the names.
func kin(d *dice, l []api.Object, kinds []uint8, names []string) string {
	l = slices.DeleteFunc(slices.Clone(l), func(o api.Object) bool { return !slices.Contains(kinds, o.Kind) })
	if len(l) == 0 || d.below(10) == 0 {
		return pick(d, names)
	}
	return pick(d, l).Handle
}

// some gives an object of any kind that is without fault by itself, and mostly stands under one of the list, and refers to one of it, that are of the right kinds.
func some(d *dice, l []api.Object, names []string) api.Object {
	often := []uint8{1, 2, 2, 3, 3, 4, 4, 4, 5, 5, 6, 6, 7, 7, 8, 8, 8, 9, 9, 9}
	o := api.Object{Handle: pick(d, names), Kind: pick(d, often)}
	if o.Kind != api.KdMds {
		o.Parent = kin(d, l, parentsOf[o.Kind], names)
	}
	if len(refersTo[o.Kind]) > 0 {
		o.Ref = kin(d, l, refersTo[o.Kind], names)
	}
	fill(d, &o, 3)
	return o
}

// fill gives the object other numbers, where its kind has some.
func fill(d *dice, o *api.Object, most int) {
	switch o.Kind {
	case api.KdMetric:
		o.Lo, o.Hi = -int64(d.below(most)), int64(d.below(most))
	case api.KdLimit:
		o.Low, o.High = -int64(d.below(most)), int64(d.below(most))
	case api.KdContext:
		o.Type, o.Assoc = uint8(d.below(2)), uint8(d.below(4))
	}
}

// grown gives a well-formed list of objects with some of these handles, to which it was tried that many times to add another one.
func grown(d *dice, names []string, tries int) []api.Object {
	var l []api.Object
	for range tries {
		more := append(slices.Clone(l), some(d, l, names))
		if rule, _ := plain(more); rule == 0 {
			l = more
		}
	}
	return l
}

// handles gives n handles that begin with that letter.
func handles(letter string, n int) []string {
	var l []string
	for i := range n {
		l = append(l, letter+strconv.Itoa(i))
	}
	return l
}

// P9.1: the chapter's examples, the empty list, and lists that are well-formed.
func TestWellLists(t *testing.T) {
	expect(t, "nothing", nil, 0, api.OK)
	expect(t, "an empty list", []api.Object{}, 0, api.OK)
	expect(t, "a KdMds alone", []api.Object{{Handle: "d", Kind: api.KdMds}}, 0, api.OK)
	expect(t, "bed", bed(), 0, api.OK)
}

// P9.1: one spoilt object, or one more or less.
func TestEachRule(t *testing.T) {
	for _, x := range []struct {
		what string
		l    []api.Object
		rule int
		e    api.Errno
	}{
		{"a number of digits that is too great", with("m", func(o *api.Object) { o.Digits = 7 }), 1, api.ErrNumber},
		{"a KdMds with a parent", with("e", func(o *api.Object) { o.Parent = "d" }), 1, api.ErrKind},
		{"a KdMds that is its own parent", with("d", func(o *api.Object) { o.Parent = "d" }), 1, api.ErrKind},
		{"no parent's name", with("v", func(o *api.Object) { o.Parent = "" }), 1, api.ErrHandle},
		{"no ref's name", with("k", func(o *api.Object) { o.Ref = "" }), 1, api.ErrHandle},
		{"a value beyond its range", with("m", func(o *api.Object) { o.Value = 101 }), 1, api.ErrRange},
		{"limits in the wrong order", with("l", func(o *api.Object) { o.Low = 100 }), 1, api.ErrRange},
		{"the same object twice", and(bed()[6]), 2, api.ErrTwice},
		{"another object of that handle", and(api.Object{Handle: "v", Kind: api.KdMds}), 2, api.ErrTwice},
		{"no devices", but(bed(), "d", "e"), 3, api.ErrParent},
		{"a KdVmd alone", []api.Object{{Handle: "v", Kind: api.KdVmd, Parent: "d"}}, 3, api.ErrParent},
		{"its own parent", with("v", func(o *api.Object) { o.Parent = "v" }), 3, api.ErrParent},
		{"a channel under a device", with("c", func(o *api.Object) { o.Parent = "d" }), 3, api.ErrParent},
		{"a system under a channel", with("s", func(o *api.Object) { o.Parent = "c" }), 3, api.ErrParent},
		{"a context under a part", with("x", func(o *api.Object) { o.Parent = "v" }), 3, api.ErrParent},
		{"a second system under a part", and(api.Object{Handle: "z", Kind: api.KdAlertSystem, Parent: "v"}), 4, api.ErrMany},
		{"a second system under a device", with("s", func(o *api.Object) { o.Parent = "d" }), 4, api.ErrMany},
		{"a condition of nothing", with("k", func(o *api.Object) { o.Ref = "zz" }), 5, api.ErrRef},
		{"a limit of nothing", with("n", func(o *api.Object) { o.Ref = "zz" }), 5, api.ErrRef},
		{"a signal of nothing", with("g", func(o *api.Object) { o.Ref = "zz" }), 5, api.ErrRef},
		{"no metric", but(bed(), "e.m"), 5, api.ErrRef},
		{"a condition of another device's metric", with("e.k", func(o *api.Object) { o.Ref = "m" }), 5, api.ErrRef},
		{"a limit of another device's metric", with("n", func(o *api.Object) { o.Ref = "e.m" }), 5, api.ErrRef},
		{"a signal of another system's limit", with("g", func(o *api.Object) { o.Ref = "n" }), 5, api.ErrRef},
		{"a signal of another device's condition", with("h", func(o *api.Object) { o.Ref = "e.k" }), 5, api.ErrRef},
		{"a signal of a metric", with("g", func(o *api.Object) { o.Ref = "m" }), 5, api.ErrRef},
		{"a signal of a signal", with("g", func(o *api.Object) { o.Ref = "h" }), 5, api.ErrRef},
		{"a signal of itself", with("g", func(o *api.Object) { o.Ref = "g" }), 5, api.ErrRef},
		{"a condition of a limit", with("k", func(o *api.Object) { o.Ref = "l" }), 5, api.ErrRef},
		{"a low that is too low", with("l", func(o *api.Object) { o.Low = -11 }), 6, api.ErrLimit},
		{"a high that is too high", with("l", func(o *api.Object) { o.High = 101 }), 6, api.ErrLimit},
		{"two contexts of a type that are AsYes", with("y", func(o *api.Object) { o.Assoc = api.AsYes }), 7, api.ErrAssoc},
		{"a second context of another device", with("e.x", func(o *api.Object) { o.Parent = "d" }), 7, api.ErrAssoc},
	} {
		expect(t, x.what, x.l, x.rule, x.e)
	}
}

// P9.1: rule 1, the faults of single objects alone.
func TestFaultsAreThoseOfObjects(t *testing.T) {
	for _, h := range strange {
		expect(t, "handle "+strconv.Quote(h), []api.Object{{Handle: h, Kind: api.KdMds}}, 1, api.ErrHandle)
		expect(t, "parent "+strconv.Quote(h), with("c", func(o *api.Object) { o.Parent = h }), 1, api.ErrHandle)
		expect(t, "ref "+strconv.Quote(h), with("g", func(o *api.Object) { o.Ref = h }), 1, api.ErrHandle)
	}
	for _, kind := range wrongKinds {
		expect(t, "kind "+strconv.Itoa(int(kind)), []api.Object{{Handle: "d", Kind: kind}}, 1, api.ErrKind)
		expect(t, "kind "+strconv.Itoa(int(kind)), with("y", func(o *api.Object) { o.Kind = kind }), 1, api.ErrKind)
	}
	for _, o := range bed() {
		o.Type, o.Assoc = 4, 4
		expect(t, "a type and an association that do not exist", []api.Object{o}, 1, api.ErrKind)
	}
	expect(t, "zero objects", make([]api.Object, 3), 1, api.ErrKind)
}

// faulty gives objects with each of the faults, under the handles a to d, some of which are no handles.
func faulty() []api.Object {
	return []api.Object{
		{Handle: "a", Kind: api.KdMetric, Parent: "c", Digits: 7},
		{Handle: "b", Kind: api.KdMetric, Parent: "c", Lo: 1},
		{Handle: "b.", Kind: api.KdMds},
		{Handle: "c", Kind: 10},
	}
}

// P9.1, P9.3: of several objects with a fault, the one with the least handle tells the error, whatever the order.
func TestFaultOfTheLeastHandle(t *testing.T) {
	want := []api.Errno{api.ErrNumber, api.ErrRange, api.ErrHandle, api.ErrKind}
	for from, e := range want {
		permute(faulty()[from:], func(l []api.Object) {
			expect(t, "faults", l, 1, e)
			expect(t, "faults after others", append(but(bed(), "c"), l...), 1, e)
			expect(t, "faults before others", append(slices.Clone(l), but(bed(), "c")...), 1, e)
		})
	}
	none := api.Object{Kind: api.KdMds}
	expect(t, "the empty handle is the least one", append(faulty(), none), 1, api.ErrHandle)
	expect(t, "bytes", []api.Object{{Handle: "\xff", Kind: api.KdMds}, {Handle: "z", Kind: 10}}, 1, api.ErrKind)
	expect(t, "a beginning is less", []api.Object{{Handle: "zz.", Kind: api.KdMds}, {Handle: "zz", Kind: 10}}, 1, api.ErrKind)
	expect(t, "an object without fault is less", []api.Object{{Handle: "a", Kind: api.KdMds}, {Handle: "b", Kind: 10}}, 1, api.ErrKind)
}

// P9.1: among objects of one handle the first one with a fault tells the error; one that has none does not stand before it.
func TestFaultsOfOneHandle(t *testing.T) {
	same := faulty()
	for i := range same {
		same[i].Handle = "q"
	}
	same[2].Parent = "p" // a KdMds has none: ErrKind
	same = append(same, api.Object{Handle: "q", Kind: api.KdMds})
	permute(same, func(l []api.Object) {
		e := object.May(l[0])
		if e == api.OK {
			e = object.May(l[1])
		}
		expect(t, "one handle", l, 1, e)
		expect(t, "one handle, and a greater one", append([]api.Object{{Handle: "r"}}, l...), 1, e)
	})
	none := []api.Object{{Handle: "", Kind: api.KdMds}, {Handle: "", Kind: 10}}
	expect(t, "empty handles", none, 1, api.ErrHandle)
	slices.Reverse(none)
	expect(t, "empty handles", none, 1, api.ErrKind)
}

// permute calls does for each order of the list.
func permute(l []api.Object, does func(l []api.Object)) {
	l = slices.Clone(l)
	var from func(k int)
	from = func(k int) {
		if k == len(l) {
			does(slices.Clone(l))
		}
		for i := k; i < len(l); i++ {
			l[k], l[i] = l[i], l[k]
			from(k + 1)
			l[k], l[i] = l[i], l[k]
		}
	}
	from(0)
}

// P9.1: rule 2, for each two objects, wherever the second one stands.
func TestTwice(t *testing.T) {
	for i, o := range bed() {
		for at := range len(bed()) + 1 {
			expect(t, o.Handle+" again", slices.Insert(bed(), at, o), 2, api.ErrTwice)
		}
		for j := range i {
			l := bed()
			l[i].Handle = l[j].Handle
			expect(t, "the handle of "+l[j].Handle, l, 2, api.ErrTwice)
		}
	}
}

// P9.1: rule 3, for an object of each kind under one of each kind.
func TestParentsOfAllKinds(t *testing.T) {
	for _, o := range bed() {
		if o.Kind == api.KdMds {
			continue
		}
		for _, parent := range bed() {
			l := with(o.Handle, func(o *api.Object) { o.Parent = parent.Handle })
			if may := slices.Contains(parentsOf[o.Kind], parent.Kind); may == (Rule(l) == 3) || may == (Check(l) == api.ErrParent) {
				t.Errorf("%s under %s: %d %d", o.Handle, parent.Handle, Rule(l), Check(l))
			}
		}
		expect(t, o.Handle+" under nobody", with(o.Handle, func(o *api.Object) { o.Parent = "nobody" }), 3, api.ErrParent)
	}
}

// P9.1: rule 3 where objects are above themselves.
func TestParentsInCycles(t *testing.T) {
	for kind := api.KdVmd; kind <= api.KdContext; kind++ {
		o := api.Object{Handle: "a", Kind: kind, Parent: "a"}
		if len(refersTo[kind]) > 0 {
			o.Ref = "a"
		}
		expect(t, "its own parent", []api.Object{o}, 3, api.ErrParent)
	}
	expect(t, "each above the other one", []api.Object{{Handle: "a", Kind: api.KdVmd, Parent: "b"}, {Handle: "b", Kind: api.KdVmd, Parent: "a"}}, 3, api.ErrParent)
	expect(t, "a system and a part", []api.Object{{Handle: "a", Kind: api.KdAlertSystem, Parent: "b"}, {Handle: "b", Kind: api.KdVmd, Parent: "a"}}, 3, api.ErrParent)
}

// several gives n objects that are equal but for their handles, which are z and a number.
func several(n int, o api.Object) []api.Object {
	l := slices.Repeat([]api.Object{o}, n)
	for i := range l {
		l[i].Handle = "z" + strconv.Itoa(i)
	}
	return l
}

// P9.1: rule 4, for each kind: as many as there may be, and one more, first or last in the list.
func TestAsManyAsThereMayBe(t *testing.T) {
	for _, x := range []struct {
		n int // beside those that bed has
		o api.Object
	}{
		{2, api.Object{Kind: api.KdMds}},
		{7, api.Object{Kind: api.KdVmd, Parent: "d"}},
		{7, api.Object{Kind: api.KdVmd, Parent: "e"}},
		{7, api.Object{Kind: api.KdChannel, Parent: "v"}},
		{15, api.Object{Kind: api.KdMetric, Parent: "c"}},
		{0, api.Object{Kind: api.KdAlertSystem, Parent: "v"}},
		{0, api.Object{Kind: api.KdAlertSystem, Parent: "e"}},
		{1, api.Object{Kind: api.KdAlertSystem, Parent: "e.v"}},
		{12, api.Object{Kind: api.KdCondition, Parent: "s", Ref: "m"}},
		{12, api.Object{Kind: api.KdLimit, Parent: "s", Ref: "m"}},
		{12, api.Object{Kind: api.KdSignal, Parent: "s", Ref: "l"}},
		{15, api.Object{Kind: api.KdCondition, Parent: "t", Ref: "m"}},
		{6, api.Object{Kind: api.KdContext, Parent: "d"}},
		{7, api.Object{Kind: api.KdContext, Parent: "e"}},
	} {
		word := object.Word(x.o.Kind)
		expect(t, word, and(several(x.n, x.o)...), 0, api.OK)
		more := several(x.n+1, x.o)
		expect(t, "one more "+word, and(more...), 4, api.ErrMany)
		expect(t, "one more "+word+", first", append(more, bed()...), 4, api.ErrMany)
		expect(t, "many more "+word, and(several(1000, x.o)...), 4, api.ErrMany)
	}
}

// P9.1: rule 4: conditions, signals and limits count together, whatever their numbers.
func TestAlertsCountTogether(t *testing.T) {
	sorts := []api.Object{{Kind: api.KdCondition, Parent: "s", Ref: "m"}, {Kind: api.KdSignal, Parent: "s", Ref: "k"}, {Kind: api.KdLimit, Parent: "s", Ref: "m"}}
	for a := range 13 {
		for b := range 13 - a {
			l := several(12, sorts[2])
			for i := range a + b {
				l[i] = sorts[0]
				if i < b {
					l[i] = sorts[1]
				}
				l[i].Handle = "z" + strconv.Itoa(i)
			}
			expect(t, "16 together", and(l...), 0, api.OK)
			for _, o := range sorts {
				o.Handle = "zz"
				expect(t, "17 together", and(append(slices.Clone(l), o)...), 4, api.ErrMany)
			}
		}
	}
}

// P9.1: rule 4 goes by each parent: as many again under another one are none too many.
func TestManyUnderSeveralParents(t *testing.T) {
	var l []api.Object
	for _, d := range handles("d", 4) {
		l = append(l, api.Object{Handle: d, Kind: api.KdMds}, api.Object{Handle: d + ".s", Kind: api.KdAlertSystem, Parent: d})
		for i := range 8 {
			v := d + ".v" + strconv.Itoa(i)
			l = append(l, api.Object{Handle: v, Kind: api.KdVmd, Parent: d}, api.Object{Handle: v + ".s", Kind: api.KdAlertSystem, Parent: v})
			l = append(l, api.Object{Handle: d + ".x" + strconv.Itoa(i), Kind: api.KdContext, Parent: d})
			for j := range 8 {
				c := v + ".c" + strconv.Itoa(j)
				l = append(l, api.Object{Handle: c, Kind: api.KdChannel, Parent: v})
				for k := range 16 {
					l = append(l, api.Object{Handle: c + ".m" + strconv.Itoa(k), Kind: api.KdMetric, Parent: c})
				}
			}
			for k := range 16 {
				l = append(l, api.Object{Handle: v + ".l" + strconv.Itoa(k), Kind: api.KdLimit, Parent: v + ".s", Ref: v + ".c0.m0"})
			}
		}
	}
	expect(t, "all that there may be", l, 0, api.OK)
	l = append(l, api.Object{Handle: "z", Kind: api.KdMetric, Parent: "d3.v7.c7"})
	expect(t, "one more", l, 4, api.ErrMany)
}

// P9.1: rule 5, for each object that refers, and each that it may name.
func TestRefsOfAllObjects(t *testing.T) {
	may := map[string]string{"l": " m ", "k": " m ", "n": " m ", "g": " k l ", "h": " k l ", "e.k": " e.m "}
	for h, good := range may {
		for _, to := range append(bed(), api.Object{Handle: "nobody"}) {
			l := with(h, func(o *api.Object) { o.Ref = to.Handle })
			if strings.Contains(good, " "+to.Handle+" ") {
				expect(t, h+" of "+to.Handle, l, 0, api.OK)
			} else {
				expect(t, h+" of "+to.Handle, l, 5, api.ErrRef)
			}
		}
	}
}

// P9.1: rule 5: metrics under another part of the same device may be referred to, from systems at either level, but not those of another device, however alike these are.
func TestRefsGoByTheDevice(t *testing.T) {
	more := []api.Object{
		{Handle: "w", Kind: api.KdVmd, Parent: "d"},
		{Handle: "w.s", Kind: api.KdAlertSystem, Parent: "w"},
		{Handle: "w.k", Kind: api.KdCondition, Parent: "w.s", Ref: "m"},
		{Handle: "e.w", Kind: api.KdVmd, Parent: "e"},
		{Handle: "e.w.s", Kind: api.KdAlertSystem, Parent: "e.w"},
		{Handle: "e.w.l", Kind: api.KdLimit, Parent: "e.w.s", Ref: "e.m"},
	}
	expect(t, "other parts", and(more...), 0, api.OK)
	more[2].Ref = "e.m"
	expect(t, "a condition of another device", and(more...), 5, api.ErrRef)
	more[2].Ref, more[5].Ref = "m", "m"
	expect(t, "a limit of another device", and(more...), 5, api.ErrRef)
	more[5].Ref = "e.m"
	more = append(more, api.Object{Handle: "w.g", Kind: api.KdSignal, Parent: "w.s", Ref: "k"})
	expect(t, "a signal of another part's condition", and(more...), 5, api.ErrRef)
	more[6].Ref = "w.k"
	expect(t, "a signal of its own part's", and(more...), 0, api.OK)
}

// P9.1: rule 6, for limits at the ends of their metric's range, and beyond either.
func TestLimitsAtTheEnds(t *testing.T) {
	for low := int64(-12); low <= 102; low++ {
		for _, high := range []int64{low, low + 1, 99, 100, 101, api.MaxNumber} {
			if low > high {
				continue
			}
			l := with("n", func(o *api.Object) { o.Low, o.High = low, high })
			if low >= -10 && high <= 100 {
				expect(t, "within", l, 0, api.OK)
			} else {
				expect(t, strconv.FormatInt(low, 10)+" to "+strconv.FormatInt(high, 10), l, 6, api.ErrLimit)
			}
		}
	}
	expect(t, "a range that becomes less above", with("m", func(o *api.Object) { o.Hi = 99 }), 6, api.ErrLimit)
	expect(t, "a range that becomes less below", with("m", func(o *api.Object) { o.Lo = -9 }), 6, api.ErrLimit)
	expect(t, "a range of one", with("e.m", func(o *api.Object) { o.Hi = 0 }), 0, api.OK)
}

// P9.1: rule 6 asks nothing of conditions, which have no limits: their metric's range may leave out 0.
func TestConditionsHaveNoLimits(t *testing.T) {
	for _, lo := range []int64{-9, 5} {
		e := placeOf(bed(), "e.m")
		l := bed()
		l[e].Lo, l[e].Hi = lo, lo+4
		expect(t, "a condition of a range without 0", l, 0, api.OK)
		l = append(l, api.Object{Handle: "e.l", Kind: api.KdLimit, Parent: "e.s", Ref: "e.m"})
		expect(t, "a limit at 0", l, 6, api.ErrLimit)
	}
}

// P9.1: rule 6 at the greatest numbers that there are.
func TestLimitsOfTheGreatestNumbers(t *testing.T) {
	l := with("m", func(o *api.Object) { o.Lo, o.Hi = -api.MaxNumber, api.MaxNumber })
	n := placeOf(l, "n")
	l[n].Low, l[n].High = -api.MaxNumber, api.MaxNumber
	expect(t, "all numbers", l, 0, api.OK)
	l[n].High++
	expect(t, "no number", l, 1, api.ErrNumber)
	l[n].High--
	l[placeOf(l, "m")].Lo++
	expect(t, "one less", l, 6, api.ErrLimit)
}

// P9.1: rule 7, for each two contexts under one parent.
func TestContextsOfOneParent(t *testing.T) {
	for n := range 256 {
		type1, type2 := uint8(n%4), uint8(n/4%4)
		a1, a2 := uint8(n/16%4), uint8(n/64)
		l := append(but(bed(), "x", "y"), api.Object{Handle: "x", Kind: api.KdContext, Parent: "d", Type: type1, Assoc: a1}, api.Object{Handle: "y", Kind: api.KdContext, Parent: "d", Type: type2, Assoc: a2})
		if type1 == type2 && a1 == api.AsYes && a2 == api.AsYes {
			expect(t, "both AsYes", l, 7, api.ErrAssoc)
		} else {
			expect(t, "not both AsYes", l, 0, api.OK)
		}
	}
}

// P9.1: rule 7: many contexts, one AsYes of each Type under each parent, and then one more.
func TestContextsOfAllTypes(t *testing.T) {
	var l []api.Object
	for _, d := range handles("d", 4) {
		l = append(l, api.Object{Handle: d, Kind: api.KdMds})
		for i := range 8 {
			o := api.Object{Handle: d + ".x" + strconv.Itoa(i), Kind: api.KdContext, Parent: d, Type: uint8(i % 4), Assoc: api.AsNo}
			if i < 4 {
				o.Assoc = api.AsYes
			}
			l = append(l, o)
		}
	}
	expect(t, "one of each Type", l, 0, api.OK)
	for i, o := range l {
		if o.Assoc == api.AsNo {
			l[i].Assoc = api.AsYes
			expect(t, "a second one: "+o.Handle, l, 7, api.ErrAssoc)
			l[i].Assoc = api.AsNo
		}
	}
}

// spoilt gives bed with something amiss for each rule of which the bit is set (1<<rule), each by itself, and no two of one handle unless rule 2 is broken.
func spoilt(bits int) []api.Object {
	l := bed()
	more := []api.Object{
		1: {Handle: "z1", Kind: api.KdMds, On: true},
		2: {Handle: "y", Kind: api.KdContext, Parent: "d"},
		3: {Handle: "z3", Kind: api.KdVmd, Parent: "nobody"},
		4: {Handle: "z4", Kind: api.KdAlertSystem, Parent: "v"},
		5: {Handle: "z5", Kind: api.KdCondition, Parent: "s", Ref: "nobody"},
		6: {Handle: "z6", Kind: api.KdLimit, Parent: "s", Ref: "m", High: 101},
		7: {Handle: "z7", Kind: api.KdContext, Parent: "d", Type: 1, Assoc: api.AsYes},
	}
	for rule, o := range more {
		if bits&(1<<rule) != 0 {
			l = append(l, o)
		}
	}
	return l
}

// errorOf says the error of each rule for what spoilt gives.
var errorOf = []api.Errno{api.OK, api.ErrKind, api.ErrTwice, api.ErrParent, api.ErrMany, api.ErrRef, api.ErrLimit, api.ErrAssoc}

// least gives the least rule of those whose bits are set, or 0.
func least(bits int) int {
	for rule := 1; rule <= 7; rule++ {
		if bits&(1<<rule) != 0 {
			return rule
		}
	}
	return 0
}

// P9.1, P9.3: of several rules that are broken the least one is told, in whatever order the list is.
func TestLeastRuleIsTold(t *testing.T) {
	var d dice
	for bits := 0; bits < 1<<8; bits += 2 {
		l, rule := spoilt(bits), least(bits)
		expect(t, "spoilt "+strconv.FormatInt(int64(bits), 2), l, rule, errorOf[rule])
		slices.Reverse(l)
		expect(t, "backwards "+strconv.FormatInt(int64(bits), 2), l, rule, errorOf[rule])
		for range 20 {
			expect(t, "mixed "+strconv.FormatInt(int64(bits), 2), mix(&d, l), rule, errorOf[rule])
		}
	}
}

// P9.1: an object that is above itself, or has no place, does not keep lesser rules from being told, nor greater ones from being left out.
func TestGreaterRulesAreNotExamined(t *testing.T) {
	expect(t, "twice, and without parents", []api.Object{{Handle: "a", Kind: api.KdVmd, Parent: "a"}, {Handle: "a", Kind: api.KdVmd, Parent: "a"}}, 2, api.ErrTwice)
	lost := api.Object{Kind: api.KdMetric, Parent: "nobody"}
	expect(t, "too many without a parent", several(100, lost), 3, api.ErrParent)
	expect(t, "a signal of itself under itself", []api.Object{{Handle: "g", Kind: api.KdSignal, Parent: "g", Ref: "g"}}, 3, api.ErrParent)
}

// pool gives objects of few handles of which lists of all sorts can be made.
func pool() []api.Object {
	return []api.Object{
		{Handle: "d", Kind: api.KdMds},
		{Handle: "e", Kind: api.KdMds},
		{Handle: "v", Kind: api.KdVmd, Parent: "d"},
		{Handle: "v", Kind: api.KdVmd, Parent: "v"},
		{Handle: "s", Kind: api.KdAlertSystem, Parent: "d"},
		{Handle: "t", Kind: api.KdAlertSystem, Parent: "d"},
		{Handle: "s", Kind: api.KdAlertSystem, Parent: "v"},
		{Handle: "k", Kind: api.KdCondition, Parent: "s", Ref: "m"},
		{Handle: "g", Kind: api.KdSignal, Parent: "s", Ref: "k"},
		{Handle: "x", Kind: api.KdContext, Parent: "d", Assoc: api.AsYes},
		{Handle: "y", Kind: api.KdContext, Parent: "d", Assoc: api.AsYes},
		{Handle: "x", Kind: api.KdContext, Parent: "e", Assoc: api.AsYes},
		{Handle: "A", Kind: api.KdMds},
		{Handle: "x", Kind: 10},
		{},
	}
}

// P9.1, P9.3: all lists of at most four objects, held against the plain rules.
func TestAllListsOfFew(t *testing.T) {
	var extend func(l []api.Object)
	extend = func(l []api.Object) {
		asPlain(t, l)
		if len(l) == 4 {
			return
		}
		for _, o := range pool() {
			extend(append(slices.Clone(l), o))
		}
	}
	extend(nil)
}

// P9.1: long sequences of lists that are well-formed, or nearly so, held against the plain rules.
func TestManyLists(t *testing.T) {
	d, names := dice(1), handles("a", 40)
	told := [8]int{}
	for range 150 {
		l := grown(&d, names[:10+d.below(31)], 150)
		for range 100 {
			next := slices.Clone(l)
			for range 1 + d.below(2) {
				next = vary(&d, next, names)
			}
			asPlain(t, next)
			told[Rule(next)]++
		}
	}
	for rule, n := range told {
		if n < 50 {
			t.Errorf("rule %d was told only %d times", rule, n)
		}
	}
}

// vary gives the list with one object more, less, or changed.
func vary(d *dice, l []api.Object, names []string) []api.Object {
	if len(l) == 0 || d.below(4) == 0 {
		return append(l, some(d, l, names))
	}
	at := d.below(len(l))
	o := &l[at]
	switch d.below(12) {
	case 0:
		return slices.Delete(l, at, at+1)
	case 1:
		o.Handle = pick(d, names)
	case 2, 3:
		o.Parent = pick(d, l).Handle
	case 4, 5:
		o.Ref = pick(d, l).Handle
	case 6:
		o.Low, o.Hi, o.Type = -int64(d.below(3)), int64(d.below(3)), uint8(d.below(5))
	case 7, 8, 9, 10:
		fill(d, o, 4)
	case 11:
		*o = some(d, l, names)
	}
	return l
}

// P9.3: the error of a list is the same in each order.
func TestAnyOrder(t *testing.T) {
	d, names := dice(2), handles("a", 30)
	for range 200 {
		l := vary(&d, grown(&d, names, 100), names)
		if plain2(l) != api.OK {
			continue
		}
		rule, e := Rule(l), Check(l)
		for range 10 {
			expect(t, "another order", mix(&d, l), rule, e)
		}
	}
	for bits := 0; bits < 1<<8; bits += 2 {
		l := spoilt(bits)[15:]
		if plain2(l) != api.OK || len(l) > 6 {
			continue
		}
		rule, e := Rule(l), Check(l)
		permute(l, func(l []api.Object) { expect(t, "each order", l, rule, e) })
	}
}

// devices gives how many KdMds there are.
func devices(l []api.Object) int {
	n := 0
	for _, o := range l {
		if o.Kind == api.KdMds {
			n++
		}
	}
	return n
}

// P9.4: two well-formed lists without a handle in common are well-formed together, unless there are too many KdMds; with one spoilt, they are as that one is.
func TestTwoListsTogether(t *testing.T) {
	var d dice
	many := [2]int{}
	for range 300 {
		a, b := grown(&d, handles("a", 20), 60), grown(&d, handles("b", 20), 60)
		both := mix(&d, slices.Concat(a, b))
		if devices(both) > 4 {
			many[1]++
			expect(t, "too many", both, 4, api.ErrMany)
			continue
		}
		many[0]++
		expect(t, "together", both, 0, api.OK)
		odd := vary(&d, slices.Clone(a), handles("a", 20))
		if devices(odd)+devices(b) <= 4 {
			expect(t, "one of them spoilt", mix(&d, slices.Concat(odd, b)), Rule(odd), Check(odd))
		}
	}
	if many[0] < 20 || many[1] < 20 {
		t.Errorf("of one sort there are too few: %v", many)
	}
}

// P9.4: each bed with another one of other handles, up to four devices.
func TestBedsTogether(t *testing.T) {
	another := bed()
	for i := range another {
		for _, h := range []*string{&another[i].Handle, &another[i].Parent, &another[i].Ref} {
			if *h != "" {
				*h = "o." + *h
			}
		}
	}
	expect(t, "two beds", and(another...), 0, api.OK)
	expect(t, "five devices", and(append(another, api.Object{Handle: "z", Kind: api.KdMds})...), 4, api.ErrMany)
	another[placeOf(another, "o.k")].Ref = "m"
	expect(t, "a ref from one bed to the other", and(another...), 5, api.ErrRef)
}

// ofDevice gives the objects whose KdMds is the one with that handle.
func ofDevice(l []api.Object, mds string) []api.Object {
	return slices.DeleteFunc(slices.Clone(l), func(o api.Object) bool {
		h, is := Mds(l, o.Handle)
		return !is || h != mds
	})
}

// P9.4: the objects of one KdMds are well-formed by themselves, and each object of a well-formed list is of one.
func TestObjectsOfOneDevice(t *testing.T) {
	var d dice
	lists := [][]api.Object{bed()}
	for range 200 {
		lists = append(lists, grown(&d, handles("a", 40), 150))
	}
	for _, l := range lists {
		n := 0
		for _, o := range l {
			if o.Kind == api.KdMds {
				part := ofDevice(l, o.Handle)
				expect(t, "of "+o.Handle, part, 0, api.OK)
				n += len(part)
			}
		}
		if n != len(l) {
			t.Errorf("%d of %d objects are of a KdMds", n, len(l))
		}
	}
}

// named tells whether another object of the list names that one as its Parent or its Ref.
func named(l []api.Object, h string) bool {
	return slices.ContainsFunc(l, func(o api.Object) bool { return o.Handle != h && (o.Parent == h || o.Ref == h) })
}

// P9.5: a well-formed list stays so without an object that nobody names; without one that somebody names it breaks rule 3 or 5.
func TestRemoval(t *testing.T) {
	var d dice
	lists := [][]api.Object{bed()}
	for range 200 {
		lists = append(lists, grown(&d, handles("a", 30), 120))
	}
	for _, l := range lists {
		for _, o := range l {
			less := but(l, o.Handle)
			kid := slices.ContainsFunc(less, func(k api.Object) bool { return k.Parent == o.Handle })
			switch {
			case !named(l, o.Handle):
				expect(t, "without "+o.Handle, less, 0, api.OK)
			case kid:
				expect(t, "without the parent "+o.Handle, less, 3, api.ErrParent)
			default:
				expect(t, "without "+o.Handle+", which is referred to", less, 5, api.ErrRef)
			}
		}
	}
}

// P9.5: taken away one by one, from those that nobody names on, a list becomes empty, and is well-formed all the way.
func TestRemovalOfAll(t *testing.T) {
	l := bed()
	for len(l) > 0 {
		at := slices.IndexFunc(l, func(o api.Object) bool { return !named(l, o.Handle) })
		if at < 0 {
			t.Fatalf("all are named: %v", l)
		}
		l = slices.Delete(l, at, at+1)
		expect(t, "less", l, 0, api.OK)
	}
}

// find and mds hold what Find and Mds tell against what is expected.
func find(t *testing.T, l []api.Object, h string, want api.Object, is bool) {
	t.Helper()
	before := slices.Clone(l)
	if o, found := Find(l, h); o != want || found != is {
		t.Errorf("%.40q: %v %v, not %v %v", h, o, found, want, is)
	}
	if !slices.Equal(l, before) {
		t.Errorf("%.40q: the list was changed", h)
	}
}

func mds(t *testing.T, l []api.Object, h, want string, is bool) {
	t.Helper()
	before := slices.Clone(l)
	if got, found := Mds(l, h); got != want || found != is {
		t.Errorf("%.40q: %q %v, not %q %v", h, got, found, want, is)
	}
	if !slices.Equal(l, before) {
		t.Errorf("%.40q: the list was changed", h)
	}
}

// P9.2: what is there, whatever it is, and what is not.
func TestFind(t *testing.T) {
	for _, o := range bed() {
		find(t, bed(), o.Handle, o, true)
		find(t, but(bed(), o.Handle), o.Handle, api.Object{}, false)
		find(t, nil, o.Handle, api.Object{}, false)
	}
	for _, h := range append(strange, "nobody", "e.", "dd", "D") {
		find(t, bed(), h, api.Object{}, false)
		o := api.Object{Handle: h, Kind: 77, Parent: "q"}
		find(t, and(o), h, o, true)
	}
}

// P9.2: of two objects of one handle the first one is found.
func TestFindOfHandlesThatStandTwice(t *testing.T) {
	for i, first := range bed() {
		second := api.Object{Handle: first.Handle, Kind: 200}
		find(t, and(second), first.Handle, first, true)
		find(t, append([]api.Object{second}, bed()...), first.Handle, second, true)
		find(t, slices.Insert(bed(), i, second), first.Handle, second, true)
		find(t, slices.Insert(bed(), i+1, second), first.Handle, first, true)
	}
}

// P9.2: what is found belongs to who asked.
func TestWhatIsFoundIsACopy(t *testing.T) {
	l := bed()
	o, _ := Find(l, "m")
	o.Hi = 7
	if !slices.Equal(l, bed()) {
		t.Error("the list was changed")
	}
	l[placeOf(l, "m")].Digits = 3
	if o.Digits != 1 {
		t.Error("the object was changed")
	}
}

// P9.2: the KdMds of each object at each depth, which is its own for a KdMds.
func TestMds(t *testing.T) {
	for _, o := range bed() {
		want := "d"
		if strings.HasPrefix(o.Handle, "e") {
			want = "e"
		}
		mds(t, bed(), o.Handle, want, true)
		mds(t, but(bed(), want), o.Handle, "", false)
		mds(t, nil, o.Handle, "", false)
	}
	for _, h := range append(strange, "nobody") {
		mds(t, bed(), h, "", false)
		mds(t, with("v", func(o *api.Object) { o.Parent = h }), "m", "", false)
	}
	mds(t, but(bed(), "c"), "m", "", false)
	mds(t, but(bed(), "c"), "l", "d", true)
}

// chain gives n objects, a0 at the top being a KdMds, each other one under the one before it.
func chain(n int, kind uint8) []api.Object {
	l := []api.Object{{Handle: "a0", Kind: api.KdMds}}
	for _, h := range handles("a", n)[1:] {
		l = append(l, api.Object{Handle: h, Kind: kind, Parent: l[len(l)-1].Handle})
	}
	return l
}

// P9.2: a KdMds is found within 8 objects, the object itself included, and not beyond; the order of the list and the kinds between do not matter.
func TestMdsWithinEightObjects(t *testing.T) {
	for kind := range 256 {
		if kind == int(api.KdMds) {
			continue
		}
		l := chain(20, uint8(kind))
		for range 2 {
			for i, h := range handles("a", 20) {
				if i < 8 {
					mds(t, l, h, "a0", true)
				} else {
					mds(t, l, h, "", false)
				}
			}
			slices.Reverse(l)
		}
	}
}

// P9.2: the nearest KdMds is told, wherever it stands, and even if it has a Parent.
func TestMdsIsTheNearest(t *testing.T) {
	l := chain(20, api.KdVmd)
	for _, i := range []int{5, 13} {
		l[i].Kind = api.KdMds
	}
	for i, h := range handles("a", 20) {
		switch {
		case i < 5:
			mds(t, l, h, "a0", true)
		case i < 13:
			mds(t, l, h, "a5", true)
		default:
			mds(t, l, h, "a13", true)
		}
	}
	mds(t, []api.Object{{Handle: "d", Kind: api.KdMds, Parent: "d"}}, "d", "d", true)
	mds(t, []api.Object{{Handle: "d", Kind: api.KdMds, Parent: "e"}, {Handle: "e", Kind: api.KdMds}}, "d", "d", true)
}

// P9.2: in cycles of any length, and from what hangs on one, no KdMds is found.
func TestMdsInCycles(t *testing.T) {
	for n := 1; n <= 12; n++ {
		l := chain(n, api.KdVmd)
		l[0].Kind, l[0].Parent = api.KdVmd, l[n-1].Handle
		l = append(l, api.Object{Handle: "b", Kind: api.KdVmd, Parent: "a0"}, api.Object{Handle: "d", Kind: api.KdMds})
		for _, o := range l[:n+1] {
			mds(t, l, o.Handle, "", false)
		}
		mds(t, l, "d", "d", true)
	}
}

// P9.2: where handles stand twice, the first object of each is gone through; a handle that is none is as good as any other one.
func TestMdsGoesByFind(t *testing.T) {
	l := []api.Object{
		{Handle: "v", Kind: api.KdVmd, Parent: "d"},
		{Handle: "d", Kind: api.KdVmd, Parent: "e"},
		{Handle: "d", Kind: api.KdMds},
		{Handle: "v", Kind: api.KdMds},
		{Handle: "e", Kind: api.KdMds},
		{Handle: "e", Kind: api.KdVmd, Parent: "v"},
	}
	for _, h := range []string{"v", "d", "e"} {
		mds(t, l, h, "e", true)
	}
	slices.Reverse(l)
	mds(t, l, "v", "v", true)
	mds(t, l, "d", "d", true)
	mds(t, l, "e", "v", true)
	for _, h := range strange {
		mds(t, []api.Object{{Handle: "v", Kind: api.KdVmd, Parent: h}, {Handle: h, Kind: api.KdMds}}, "v", h, true)
		mds(t, []api.Object{{Handle: "v", Kind: api.KdVmd, Parent: h}, {Handle: h, Kind: 0, Parent: h}}, "v", "", false)
	}
	mds(t, []api.Object{{Kind: api.KdMds}, {Handle: "v", Kind: api.KdVmd, Parent: "w"}}, "v", "", false)
}
