package change

import (
	"math"
	"slices"
	"strconv"
	"strings"
	"testing"

	"bedside/api"
	"bedside/object"
)

// strange are strings that are no handles.
var strange = []string{"", "-", ".", ".a", "_", "1", "1a", "A", "aB", "a.", "a..b", "a b", " a", "a ", "a\x00", "\x00", "\x80", "\xff", "a\xff", "\xc3\xa4", "{", "abcdefghijklmnopq", strings.Repeat("z", 1000)}

// wrongKinds are kinds of objects that do not exist; wrongChanges are kinds of changes that do not.
var (
	wrongKinds   = []uint8{0, 10, 11, 15, 16, 17, 63, 64, 128, 254, 255}
	wrongChanges = []uint8{0, 5, 6, 7, 8, 9, 15, 16, 127, 128, 254, 255}
)

// bed gives an object of each kind, known by its handle, with all fields that its kind has; by handles.
func bed() []api.Object {
	return []api.Object{
		{Handle: "c", Kind: api.KdChannel, Parent: "v"},
		{Handle: "d", Kind: api.KdMds},
		{Handle: "g", Kind: api.KdSignal, Parent: "s", Ref: "k", On: true},
		{Handle: "k", Kind: api.KdCondition, Parent: "s", Type: 2, Ref: "m", On: true},
		{Handle: "l", Kind: api.KdLimit, Parent: "s", Type: 3, Ref: "m", On: true, Low: 1, High: 2},
		{Handle: "m", Kind: api.KdMetric, Parent: "c", Lo: -5, Hi: 100, Digits: 1, Has: true, Value: 37},
		{Handle: "s", Kind: api.KdAlertSystem, Parent: "d", On: true},
		{Handle: "v", Kind: api.KdVmd, Parent: "d"},
		{Handle: "x", Kind: api.KdContext, Parent: "d", Type: 1, Assoc: api.AsPre},
	}
}

// of gives the object of bed with that handle.
func of(h string) api.Object {
	l := bed()
	return l[slices.IndexFunc(l, func(o api.Object) bool { return o.Handle == h })]
}

func with(o api.Object, does func(o *api.Object)) api.Object {
	does(&o)
	return o
}

// bare and only give the object without its state, and its Handle, Kind and state alone.
func bare(o api.Object) api.Object {
	o.On, o.Has, o.Value, o.Low, o.High, o.Assoc = false, false, 0, 0, 0, 0
	return o
}

func only(o api.Object) api.Object {
	o.Parent, o.Type, o.Ref, o.Lo, o.Hi, o.Digits = "", 0, "", 0, 0, 0
	return o
}

func create(o api.Object) api.Change { return api.Change{Kind: api.CgCreate, O: o} }
func desc(o api.Object) api.Change   { return api.Change{Kind: api.CgDesc, O: o} }
func state(o api.Object) api.Change  { return api.Change{Kind: api.CgState, O: o} }
func gone(h string) api.Change {
	return api.Change{Kind: api.CgDelete, O: api.Object{Handle: h}}
}

func sets(l ...api.Change) []api.Change { return l }

// plainOne says as the document does whether a change is valid. A state alone has a fault exactly if it has one in an object whose descriptor hinders nothing.
func plainOne(c api.Change) bool {
	switch c.Kind {
	case api.CgCreate:
		return object.May(c.O) == api.OK
	case api.CgDesc:
		return c.O == bare(c.O) && object.May(c.O) == api.OK
	case api.CgState:
		o := c.O
		if o.Kind != api.KdMds {
			o.Parent = "p"
		}
		switch o.Kind {
		case api.KdMetric:
			o.Lo, o.Hi = -api.MaxNumber, api.MaxNumber
		case api.KdCondition, api.KdSignal, api.KdLimit:
			o.Ref = "r"
		}
		return c.O == only(c.O) && object.May(o) == api.OK
	case api.CgDelete:
		o := api.Object{Handle: c.O.Handle, Kind: api.KdMds}
		return c.O == api.Object{Handle: c.O.Handle} && object.May(o) == api.OK
	}
	return false
}

func plainMay(set []api.Change) api.Errno {
	if len(set) > 8 {
		return api.ErrChange
	}
	for i, c := range set {
		for _, before := range set[:i] {
			if before.O.Handle == c.O.Handle {
				return api.ErrChange
			}
		}
		if !plainOne(c) {
			return api.ErrChange
		}
	}
	return api.OK
}

// plainFit says what the document does of one change: what there is of its handle is asked of the list as it is handed in.
func plainFit(l []api.Object, c api.Change) api.Errno {
	for _, o := range l {
		switch {
		case o.Handle != c.O.Handle:
			continue
		case c.Kind == api.CgCreate:
			return api.ErrTwice
		case c.Kind != api.CgDelete && o.Kind != c.O.Kind:
			return api.ErrKind
		case c.Kind == api.CgDesc && o.Parent != c.O.Parent:
			return api.ErrParent
		}
		return api.OK
	}
	if c.Kind == api.CgCreate {
		return api.OK
	}
	return api.ErrNone
}

func plainFits(l []api.Object, set []api.Change) api.Errno {
	if e := plainMay(set); e != api.OK {
		return e
	}
	for _, c := range set {
		if e := plainFit(l, c); e != api.OK {
			return e
		}
	}
	return api.OK
}

// plainDone gives what an object becomes, field by field.
func plainDone(o api.Object, c api.Change) (api.Object, bool) {
	n := c.O
	switch c.Kind {
	case api.CgCreate:
		return n, true
	case api.CgDesc:
		o.Parent, o.Type, o.Ref, o.Lo, o.Hi, o.Digits = n.Parent, n.Type, n.Ref, n.Lo, n.Hi, n.Digits
		return o, true
	case api.CgState:
		o.On, o.Has, o.Value, o.Low, o.High, o.Assoc = n.On, n.Has, n.Value, n.Low, n.High, n.Assoc
		return o, true
	}
	return api.Object{}, false
}

// insert puts the object into an ordered list, behind those of its handle.
func insert(l []api.Object, o api.Object) []api.Object {
	i := 0
	for i < len(l) && l[i].Handle <= o.Handle {
		i++
	}
	return slices.Insert(l, i, o)
}

// plainApply goes through the list once, object by object, and looks for the change of each.
func plainApply(l []api.Object, set []api.Change) ([]api.Object, api.Errno) {
	if e := plainFits(l, set); e != api.OK {
		return nil, e
	}
	made := map[int]bool{}
	var out []api.Object
	for _, o := range l {
		there := true
		for j, c := range set {
			if c.O.Handle == o.Handle && !made[j] {
				made[j] = true
				o, there = plainDone(o, c)
				break
			}
		}
		if there {
			out = insert(out, o)
		}
	}
	for j, c := range set {
		if !made[j] {
			out = insert(out, c.O)
		}
	}
	return out, api.OK
}

func plainUndo(l []api.Object, set []api.Change) ([]api.Change, api.Errno) {
	if e := plainFits(l, set); e != api.OK {
		return nil, e
	}
	var out []api.Change
	for _, c := range set {
		var was api.Object
		for _, o := range slices.Backward(l) {
			if o.Handle == c.O.Handle {
				was = o
			}
		}
		switch c.Kind {
		case api.CgCreate:
			out = append(out, gone(c.O.Handle))
		case api.CgDesc:
			out = append(out, desc(bare(was)))
		case api.CgState:
			out = append(out, state(only(was)))
		case api.CgDelete:
			out = append(out, create(was))
		}
	}
	return out, api.OK
}

// expect holds what Fits, Apply and Undo tell against what is expected, and the arguments against what they were.
func expect(t *testing.T, what string, l []api.Object, set []api.Change, want []api.Object, inverse []api.Change, e api.Errno) {
	t.Helper()
	l0, set0 := slices.Clone(l), slices.Clone(set)
	if f := Fits(l, set); f != e {
		t.Errorf("%s: Fits: %d, not %d", what, f, e)
	}
	if out, f := Apply(l, set); f != e || !slices.Equal(out, want) {
		t.Errorf("%s: Apply: %v %d, not %v %d", what, out, f, want, e)
	}
	if back, f := Undo(l, set); f != e || !slices.Equal(back, inverse) {
		t.Errorf("%s: Undo: %v %d, not %v %d", what, back, f, inverse, e)
	}
	if !slices.Equal(l, l0) || !slices.Equal(set, set0) {
		t.Errorf("%s: the arguments were changed", what)
	}
}

// refused expects that the set leads to the error, and to nothing else.
func refused(t *testing.T, what string, l []api.Object, set []api.Change, e api.Errno) {
	t.Helper()
	expect(t, what, l, set, nil, nil, e)
}

// asPlain expects what the plain functions say.
func asPlain(t *testing.T, l []api.Object, set []api.Change) {
	t.Helper()
	want, e := plainApply(l, set)
	inverse, _ := plainUndo(l, set)
	expect(t, "as plain", l, set, want, inverse, e)
	if f := May(set); f != plainMay(set) {
		t.Errorf("May of %v: %d", set, f)
	}
}

// valid expects that the change is valid, or not, by itself and in sets of one.
func valid(t *testing.T, what string, c api.Change, want bool) {
	t.Helper()
	e := api.OK
	if !want {
		e = api.ErrChange
	}
	if One(c) != want {
		t.Errorf("%s: %v: One: %v", what, c, !want)
	}
	if f := May([]api.Change{c}); f != e {
		t.Errorf("%s: %v: May: %d", what, c, f)
	}
	if f := May([]api.Change{gone("zz"), c, gone("zy")}); f != e {
		t.Errorf("%s: %v among others: May: %d", what, c, f)
	}
}

// P10.1: a change of each kind for each kind of object.
func TestValidChanges(t *testing.T) {
	for _, o := range bed() {
		valid(t, "create", create(o), true)
		valid(t, "create without a state", create(bare(o)), true)
		valid(t, "desc", desc(bare(o)), true)
		valid(t, "state", state(only(o)), true)
		valid(t, "zero state", state(api.Object{Handle: o.Handle, Kind: o.Kind}), true)
		valid(t, "delete", gone(o.Handle), true)
	}
	valid(t, "a limit without On", state(api.Object{Handle: "l", Kind: api.KdLimit, Low: -3, High: -3}), true)
	valid(t, "longest handle", gone("abcdefghijklmnop"), true)
}

// P10.1: each kind of change with what it lacks, or has too much.
func TestChangesThatContainMoreOrLess(t *testing.T) {
	for _, o := range bed() {
		valid(t, "create of a state alone", create(only(o)), only(o) == o)
		valid(t, "desc with a state", desc(o), bare(o) == o)
		valid(t, "desc of a state alone", desc(only(o)), o.Kind == api.KdMds)
		valid(t, "state with a descriptor", state(o), only(o) == o)
		valid(t, "state of a descriptor alone", state(bare(o)), o.Kind == api.KdMds)
		valid(t, "delete of an object", api.Change{Kind: api.CgDelete, O: o}, false)
		valid(t, "delete with a kind", api.Change{Kind: api.CgDelete, O: api.Object{Handle: o.Handle, Kind: o.Kind}}, false)
	}
}

// A filling gives one field a value.
type filling struct {
	name string
	does func(o *api.Object)
}

func numbers() []int64 {
	return []int64{0, 1, -1, 3, 37, -api.MaxNumber, api.MaxNumber, -api.MaxNumber - 1, api.MaxNumber + 1, math.MinInt64, math.MaxInt64}
}

// fillings gives each field many values: ones that may be, ones that may not be for some kinds, and ones that may never be.
func fillings() []filling {
	var l []filling
	add := func(name string, does func(o *api.Object)) { l = append(l, filling{name, does}) }
	for _, s := range append([]string{"a", "q.r"}, strange...) {
		add("Handle "+strconv.Quote(s), func(o *api.Object) { o.Handle = s })
		add("Parent "+strconv.Quote(s), func(o *api.Object) { o.Parent = s })
		add("Ref "+strconv.Quote(s), func(o *api.Object) { o.Ref = s })
	}
	for n := range 256 {
		add("Kind "+strconv.Itoa(n), func(o *api.Object) { o.Kind = uint8(n) })
	}
	for _, n := range []uint8{0, 1, 2, 3, 4, 5, 6, 7, 8, 128, 255} {
		add("Type "+strconv.Itoa(int(n)), func(o *api.Object) { o.Type = n })
		add("Digits "+strconv.Itoa(int(n)), func(o *api.Object) { o.Digits = n })
		add("Assoc "+strconv.Itoa(int(n)), func(o *api.Object) { o.Assoc = n })
	}
	for _, is := range []bool{false, true} {
		add("On", func(o *api.Object) { o.On = is })
		add("Has", func(o *api.Object) { o.Has = is })
	}
	for _, n := range numbers() {
		s := strconv.FormatInt(n, 10)
		add("Lo "+s, func(o *api.Object) { o.Lo = n })
		add("Hi "+s, func(o *api.Object) { o.Hi = n })
		add("Value "+s, func(o *api.Object) { o.Value = n })
		add("Low "+s, func(o *api.Object) { o.Low = n })
		add("High "+s, func(o *api.Object) { o.High = n })
	}
	return l
}

// P10.1: each kind of change of each kind of object, whole, without its state, without its descriptor, or with its handle alone, in which one or two fields are filled in whatever way.
func TestValidAsPlain(t *testing.T) {
	all := fillings()
	for _, o := range bed() {
		for _, from := range []api.Object{o, bare(o), only(o), {Handle: o.Handle}, {}} {
			for i, f := range all {
				one := with(from, f.does)
				for kind := range uint8(7) {
					c := api.Change{Kind: kind, O: one}
					valid(t, f.name, c, plainOne(c))
				}
				for _, g := range all[i+1:] {
					kind := uint8(1 + i%4)
					c := api.Change{Kind: kind, O: with(one, g.does)}
					if One(c) != plainOne(c) {
						t.Errorf("%s, %s: %v: One: %v", f.name, g.name, c, One(c))
					}
				}
			}
		}
	}
}

// P10.1: a state may have each of its fields, and a descriptor none of these; a state none of the descriptor's, a deletion none at all, whether the kind has the field or not.
func TestEachFieldTooMuch(t *testing.T) {
	descriptor := []filling{
		{"Parent", func(o *api.Object) { o.Parent = "p" }},
		{"Type", func(o *api.Object) { o.Type = 1 }},
		{"Ref", func(o *api.Object) { o.Ref = "r" }},
		{"Lo", func(o *api.Object) { o.Lo = -1 }},
		{"Hi", func(o *api.Object) { o.Hi = 1 }},
		{"Digits", func(o *api.Object) { o.Digits = 1 }},
	}
	standing := []filling{
		{"On", func(o *api.Object) { o.On = true }},
		{"Has", func(o *api.Object) { o.Has = true }},
		{"Value", func(o *api.Object) { o.Value = 1 }},
		{"Low", func(o *api.Object) { o.Low = -1 }},
		{"High", func(o *api.Object) { o.High = 1 }},
		{"Assoc", func(o *api.Object) { o.Assoc = api.AsYes }},
	}
	for _, o := range bed() {
		for _, f := range descriptor {
			valid(t, f.name+" in a state", state(with(only(o), f.does)), false)
			valid(t, f.name+" in a zero state", state(with(api.Object{Handle: o.Handle, Kind: o.Kind}, f.does)), false)
		}
		for _, f := range standing {
			valid(t, f.name+" in a descriptor", desc(with(bare(o), f.does)), false)
		}
		kind := filling{"Kind", func(d *api.Object) { d.Kind = o.Kind }}
		for _, f := range slices.Concat(descriptor, standing, []filling{kind}) {
			valid(t, f.name+" in a deletion", api.Change{Kind: api.CgDelete, O: with(api.Object{Handle: o.Handle}, f.does)}, false)
		}
	}
}

// P10.1: an object with any fault cannot be created.
func TestCreationsWithAFault(t *testing.T) {
	valid(t, "no Parent", create(with(of("v"), func(o *api.Object) { o.Parent = "" })), false)
	valid(t, "a Parent of a KdMds", create(with(of("d"), func(o *api.Object) { o.Parent = "d" })), false)
	valid(t, "no Ref", create(with(of("l"), func(o *api.Object) { o.Ref = "" })), false)
	valid(t, "a value above", create(with(of("m"), func(o *api.Object) { o.Value = 101 })), false)
	valid(t, "a value below", create(with(of("m"), func(o *api.Object) { o.Value = -6 })), false)
	valid(t, "the greatest value", create(with(of("m"), func(o *api.Object) { o.Value = 100 })), true)
	valid(t, "the least value", create(with(of("m"), func(o *api.Object) { o.Value = -5 })), true)
	valid(t, "a value that it has not", create(with(of("m"), func(o *api.Object) { o.Has = false })), false)
	valid(t, "Type", create(with(of("x"), func(o *api.Object) { o.Type = 4 })), false)
	valid(t, "Assoc", create(with(of("x"), func(o *api.Object) { o.Assoc = 4 })), false)
	valid(t, "another kind's field", create(with(of("x"), func(o *api.Object) { o.On = true })), false)
	valid(t, "Low above High", create(with(of("l"), func(o *api.Object) { o.Low = 3 })), false)
}

// P10.1: what can be decided of a descriptor and of a state alone.
func TestFaultsOfParts(t *testing.T) {
	m := bare(of("m"))
	valid(t, "a range without 0", desc(with(m, func(o *api.Object) { o.Lo = 50 })), true)
	valid(t, "a range of one number", desc(with(m, func(o *api.Object) { o.Lo = 100 })), true)
	valid(t, "Lo above Hi", desc(with(m, func(o *api.Object) { o.Lo = 101 })), false)
	valid(t, "Digits", desc(with(m, func(o *api.Object) { o.Digits = 6 })), true)
	valid(t, "too many Digits", desc(with(m, func(o *api.Object) { o.Digits = 7 })), false)
	valid(t, "no Parent", desc(with(m, func(o *api.Object) { o.Parent = "" })), false)
	valid(t, "no Ref", desc(with(bare(of("l")), func(o *api.Object) { o.Ref = "" })), false)
	for _, n := range numbers() {
		may := -api.MaxNumber <= n && n <= api.MaxNumber
		valid(t, "Value", state(api.Object{Handle: "m", Kind: api.KdMetric, Has: true, Value: n}), may)
		valid(t, "Value without Has", state(api.Object{Handle: "m", Kind: api.KdMetric, Value: n}), n == 0)
		valid(t, "Low and High", state(api.Object{Handle: "l", Kind: api.KdLimit, Low: n, High: n}), may)
		for _, high := range numbers() {
			mays := may && -api.MaxNumber <= high && high <= api.MaxNumber && n <= high
			valid(t, "Low to High", state(api.Object{Handle: "l", Kind: api.KdLimit, Low: n, High: high}), mays)
		}
	}
	for n := range 256 {
		valid(t, "Assoc", state(api.Object{Handle: "x", Kind: api.KdContext, Assoc: uint8(n)}), n <= 3)
		valid(t, "Type", desc(api.Object{Handle: "x", Kind: api.KdContext, Parent: "d", Type: uint8(n)}), n <= 3)
	}
}

// P10.1: kinds of changes and of objects that do not exist, and handles that are none.
func TestWhatThereIsNone(t *testing.T) {
	for _, o := range bed() {
		for _, kind := range wrongChanges {
			for _, from := range []api.Object{o, bare(o), only(o), {Handle: o.Handle}, {}} {
				valid(t, "kind of change", api.Change{Kind: kind, O: from}, false)
			}
		}
		for _, kind := range wrongKinds {
			wrong := with(o, func(o *api.Object) { o.Kind = kind })
			valid(t, "create", create(wrong), false)
			valid(t, "desc", desc(bare(wrong)), false)
			valid(t, "state", state(only(wrong)), false)
			valid(t, "zero state", state(api.Object{Handle: o.Handle, Kind: kind}), false)
		}
		for _, h := range strange {
			wrong := with(o, func(o *api.Object) { o.Handle = h })
			valid(t, "create", create(wrong), false)
			valid(t, "desc", desc(bare(wrong)), false)
			valid(t, "state", state(only(wrong)), false)
			valid(t, "delete", gone(h), false)
		}
	}
}

// many gives a set of n changes, of all kinds.
func many(n int) []api.Change {
	var set []api.Change
	for i := range n {
		h := "h" + strconv.Itoa(i)
		o := bed()[i%len(bed())]
		o.Handle = h
		set = append(set, []api.Change{create(o), desc(bare(o)), state(only(o)), gone(h)}[i%4])
	}
	return set
}

// may holds what May says of a set against what is expected.
func may(t *testing.T, what string, set []api.Change, want bool) {
	t.Helper()
	e, before := api.OK, slices.Clone(set)
	if !want {
		e = api.ErrChange
	}
	if f := May(set); f != e {
		t.Errorf("%s: May of %d changes: %d", what, len(set), f)
	}
	if !slices.Equal(set, before) {
		t.Errorf("%s: the set was changed", what)
	}
}

// P10.1: sets of any length.
func TestSetsOfManyChanges(t *testing.T) {
	may(t, "nil", nil, true)
	may(t, "empty", []api.Change{}, true)
	for n := range 40 {
		may(t, "many", many(n), n <= 8)
	}
	may(t, "huge", make([]api.Change, 100000), false)
}

// P10.1: one change that is not valid, at each place of sets of each length.
func TestSetsWithOneThatIsNotValid(t *testing.T) {
	for n := 1; n <= 8; n++ {
		for i := range n {
			set := many(n)
			for _, c := range []api.Change{{}, {Kind: 5, O: set[i].O}, gone(""), desc(of("m")), state(of("m")), create(only(of("m")))} {
				set[i] = c
				may(t, "one wrong", set, false)
			}
			set[i] = gone("zz")
			may(t, "none wrong", set, true)
		}
	}
}

// P10.1: two changes of one handle, side by side and apart, of any kinds, equal or not.
func TestSetsWithAHandleTwice(t *testing.T) {
	for n := 2; n <= 8; n++ {
		for i := range n {
			for j := range i {
				for _, c := range []api.Change{create(of("m")), desc(bare(of("m"))), state(only(of("m"))), gone("m")} {
					for _, d := range []api.Change{create(of("m")), create(of("d")), desc(bare(of("m"))), state(only(of("m"))), gone("m")} {
						set := many(n)
						set[i], set[j] = c, d
						may(t, "twice", set, d.O.Handle != "m")
					}
				}
			}
		}
	}
}

// P10.1: the handles of sets, valid or not.
func TestHandles(t *testing.T) {
	for _, x := range []struct {
		set  []api.Change
		want []string
	}{
		{nil, nil},
		{[]api.Change{}, nil},
		{sets(gone("b"), create(of("m")), desc(bare(of("c"))), gone("a.")), []string{"a.", "b", "c", "m"}},
		{sets(gone("b"), gone("a"), gone("b")), []string{"a", "b"}},
		{sets(gone("b"), create(api.Object{Handle: "b"}), state(api.Object{Handle: "b", Kind: 9, Parent: "p"})), []string{"b"}},
		{sets(gone("ab"), gone("a"), gone("a.b"), gone("a-b"), gone("a_b"), gone("a0")), []string{"a", "a-b", "a.b", "a0", "a_b", "ab"}},
		{sets(gone("\xff"), gone(""), gone("B"), gone("b"), gone("")), []string{"", "B", "b", "\xff"}},
		{sets(api.Change{}, api.Change{Kind: 99, O: api.Object{Handle: "q", Parent: "p", Ref: "r"}}), []string{"", "q"}},
	} {
		before := slices.Clone(x.set)
		if h := Handles(x.set); !slices.Equal(h, x.want) {
			t.Errorf("%v: %q, not %q", x.set, h, x.want)
		}
		if !slices.Equal(x.set, before) {
			t.Errorf("%v was changed", before)
		}
	}
	if h := Handles(append(many(30), many(30)...)); len(h) != 30 || !slices.IsSorted(h) {
		t.Errorf("of many: %q", h)
	}
}

// P10.1: sets are equal change by change, in each field, in their order.
func TestSame(t *testing.T) {
	same := func(what string, a, b []api.Change, want bool) {
		t.Helper()
		a0, b0 := slices.Clone(a), slices.Clone(b)
		if Same(a, b) != want || Same(b, a) != want {
			t.Errorf("%s: %v and %v: not %v", what, a, b, want)
		}
		if !slices.Equal(a, a0) || !slices.Equal(b, b0) {
			t.Errorf("%s: the sets were changed", what)
		}
	}
	same("none", nil, nil, true)
	same("empty", nil, []api.Change{}, true)
	same("zero", make([]api.Change, 3), make([]api.Change, 3), true)
	same("zero of unlike length", make([]api.Change, 3), make([]api.Change, 4), false)
	for n := 1; n < 20; n++ {
		same("equal", many(n), many(n), true)
		same("one less", many(n), many(n-1), false)
		same("none", many(n), nil, false)
		same("twice", many(n), append(many(n), many(n)...), false)
		for i := range n {
			other := many(n)
			other[i].Kind++
			same("another kind", many(n), other, false)
			other = many(n)
			other[i], other[0] = other[0], other[i]
			same("another order", many(n), other, i == 0)
		}
	}
	for _, o := range bed() {
		for _, f := range fillings() {
			p := with(o, f.does)
			same(f.name, sets(gone("a"), create(o), gone("b")), sets(gone("a"), create(p), gone("b")), o == p)
		}
	}
}

// P10.2, P10.3: the empty set, which fits everything and only puts it in order.
func TestEmptySet(t *testing.T) {
	expect(t, "nothing", nil, nil, nil, nil, api.OK)
	expect(t, "a bed", bed(), nil, bed(), nil, api.OK)
	expect(t, "a bed", bed(), []api.Change{}, bed(), nil, api.OK)
	back := bed()
	slices.Reverse(back)
	expect(t, "in reverse", back, nil, bed(), nil, api.OK)
}

// without gives bed without the object with that handle; in gives bed with this object in place of the one of its handle.
func without(h string) []api.Object {
	return slices.DeleteFunc(bed(), func(o api.Object) bool { return o.Handle == h })
}

func in(o api.Object) []api.Object {
	return insert(without(o.Handle), o)
}

// P10.2, P10.3: a change of each kind, of each object.
func TestEachKindOfChange(t *testing.T) {
	for _, o := range bed() {
		expect(t, "create", without(o.Handle), sets(create(o)), bed(), sets(gone(o.Handle)), api.OK)
		expect(t, "create in nothing", nil, sets(create(o)), []api.Object{o}, sets(gone(o.Handle)), api.OK)
		expect(t, "delete", bed(), sets(gone(o.Handle)), without(o.Handle), sets(create(o)), api.OK)
		expect(t, "delete of all", []api.Object{o}, sets(gone(o.Handle)), nil, sets(create(o)), api.OK)
		blank := api.Object{Handle: o.Handle, Kind: o.Kind}
		expect(t, "state", bed(), sets(state(blank)), in(bare(o)), sets(state(only(o))), api.OK)
		expect(t, "state again", in(bare(o)), sets(state(only(o))), bed(), sets(state(blank)), api.OK)
		expect(t, "same state", bed(), sets(state(only(o))), bed(), sets(state(only(o))), api.OK)
		expect(t, "same descriptor", bed(), sets(desc(bare(o))), bed(), sets(desc(bare(o))), api.OK)
	}
	m := of("m")
	m.Lo, m.Hi, m.Digits = 0, 40, 3
	expect(t, "range", bed(), sets(desc(bare(m))), in(m), sets(desc(bare(of("m")))), api.OK)
	m.Lo, m.Hi, m.Digits = 0, 1, 0
	expect(t, "range without the value", bed(), sets(desc(bare(m))), in(m), sets(desc(bare(of("m")))), api.OK)
	m = of("m")
	m.Value = 9999
	expect(t, "value beyond the range", bed(), sets(state(only(m))), in(m), sets(state(only(of("m")))), api.OK)
	k := of("k")
	k.Type, k.Ref = 0, "q"
	expect(t, "type and ref", bed(), sets(desc(bare(k))), in(k), sets(desc(bare(of("k")))), api.OK)
	l := of("l")
	l.On, l.Low, l.High = false, -7, 1000
	expect(t, "limits", bed(), sets(state(only(l))), in(l), sets(state(only(of("l")))), api.OK)
	x := of("x")
	x.Assoc = api.AsYes
	expect(t, "association", bed(), sets(state(only(x))), in(x), sets(state(only(of("x")))), api.OK)
}

// P10.2, P10.3: the errors of single changes, in their order: whether it is there, its kind, its parent.
func TestChangesThatCannotBeApplied(t *testing.T) {
	for _, o := range bed() {
		refused(t, "create", bed(), sets(create(o)), api.ErrTwice)
		refused(t, "create of another one", bed(), sets(create(api.Object{Handle: o.Handle, Kind: api.KdContext, Parent: "q"})), api.ErrTwice)
		refused(t, "desc", without(o.Handle), sets(desc(bare(o))), api.ErrNone)
		refused(t, "state", without(o.Handle), sets(state(only(o))), api.ErrNone)
		refused(t, "delete", without(o.Handle), sets(gone(o.Handle)), api.ErrNone)
		refused(t, "delete in nothing", nil, sets(gone(o.Handle)), api.ErrNone)
		for _, p := range bed() {
			if p.Kind == o.Kind {
				continue
			}
			p.Handle = o.Handle
			refused(t, "desc of another kind", bed(), sets(desc(bare(p))), api.ErrKind)
			refused(t, "state of another kind", bed(), sets(state(only(p))), api.ErrKind)
			p.Handle = "zz"
			refused(t, "desc of what is not there", bed(), sets(desc(bare(p))), api.ErrNone)
		}
		if o.Kind != api.KdMds {
			other := bare(o)
			other.Parent = "q"
			refused(t, "desc of another parent", bed(), sets(desc(other)), api.ErrParent)
		}
	}
	stray := api.Object{Handle: "d", Kind: api.KdMds, Parent: "e"}
	refused(t, "desc of a KdMds with a parent", []api.Object{stray}, sets(desc(of("d"))), api.ErrParent)
}

// P10.2, P10.3: a set that is not valid is ErrChange, whatever else is wrong with it, and wherever.
func TestSetsThatAreNotValid(t *testing.T) {
	wrong := []api.Change{{}, {Kind: 5, O: of("d")}, gone(""), gone("A"), desc(of("m")), state(of("m")), {Kind: api.CgDelete, O: of("m")}, create(only(of("m"))), state(api.Object{Handle: "m", Kind: api.KdMetric, Value: 1})}
	for _, c := range wrong {
		for _, l := range [][]api.Object{nil, bed()} {
			refused(t, "alone", l, sets(c), api.ErrChange)
			refused(t, "behind what fits", l, sets(create(api.Object{Handle: "z", Kind: api.KdMds}), c), api.ErrChange)
			refused(t, "behind what does not", l, sets(create(of("d")), gone("zz"), c), api.ErrChange)
			refused(t, "before what does not", l, sets(c, gone("zz")), api.ErrChange)
		}
	}
	refused(t, "twice", bed(), sets(gone("m"), gone("m")), api.ErrChange)
	refused(t, "twice, apart", bed(), sets(state(only(of("m"))), gone("zz"), desc(bare(of("m")))), api.ErrChange)
	refused(t, "created and deleted", bed(), sets(create(api.Object{Handle: "z", Kind: api.KdMds}), gone("z")), api.ErrChange)
	refused(t, "nine", nil, many(9), api.ErrChange)
}

// P10.2: the error of the first change that cannot be applied is told, wherever it stands.
func TestFirstErrorIsTold(t *testing.T) {
	wrong := []struct {
		c api.Change
		e api.Errno
	}{
		{create(of("d")), api.ErrTwice},
		{gone("zz"), api.ErrNone},
		{state(api.Object{Handle: "s", Kind: api.KdLimit}), api.ErrKind},
		{desc(api.Object{Handle: "v", Kind: api.KdVmd, Parent: "q"}), api.ErrParent},
	}
	good := sets(gone("m"), create(api.Object{Handle: "z", Kind: api.KdMds}), state(only(of("x"))), desc(bare(of("k"))))
	for i, a := range wrong {
		for j, b := range wrong {
			if i == j {
				continue
			}
			for k := range len(good) + 1 {
				set := slices.Concat(good[:k], sets(a.c), good[k:], sets(b.c))
				refused(t, "two", bed(), set, a.e)
				set = slices.Concat(sets(good[:k]...), sets(a.c, b.c), good[k:])
				refused(t, "two side by side", bed(), set, a.e)
			}
		}
	}
}

// P10.2: as many changes as there may be, and one more.
func TestMostChanges(t *testing.T) {
	var l []api.Object
	var set []api.Change
	for i := range 9 {
		h := "a" + strconv.Itoa(i)
		l = append(l, api.Object{Handle: h, Kind: api.KdVmd, Parent: "d"})
		set = append(set, gone(h))
	}
	var inverse []api.Change
	for _, o := range l[:8] {
		inverse = append(inverse, create(o))
	}
	expect(t, "eight", l, set[:8], l[8:], inverse, api.OK)
	refused(t, "nine", l, set, api.ErrChange)
	expect(t, "eight back", l[8:], inverse, l, set[:8], api.OK)
}

// P10.2: each change is asked of the list as it was, and the changes of other handles do not hinder it.
func TestChangesDoNotSeeEachOther(t *testing.T) {
	d, e := of("d"), api.Object{Handle: "e", Kind: api.KdMds}
	v, w := of("v"), api.Object{Handle: "w", Kind: api.KdVmd, Parent: "e"}
	expect(t, "a parent goes, its kid stays", []api.Object{d, v}, sets(gone("d"), desc(v)), []api.Object{v}, sets(create(d), desc(v)), api.OK)
	expect(t, "one under another that comes later", nil, sets(create(w), create(e)), []api.Object{e, w}, sets(gone("w"), gone("e")), api.OK)
	expect(t, "one comes, one goes", []api.Object{d, v}, sets(gone("d"), gone("v"), create(e), create(w)), []api.Object{e, w}, sets(create(d), create(v), gone("e"), gone("w")), api.OK)
	m := api.Object{Handle: "m", Kind: api.KdMetric, Parent: "c"}
	n := api.Object{Handle: "n", Kind: api.KdMetric, Parent: "c", Hi: 9}
	m5, n5 := m, n
	m5.Has, m5.Value, n5.Has, n5.Value = true, 5, true, 5
	expect(t, "state of one, descriptor of the other", []api.Object{m, n}, sets(state(only(m5)), state(only(n5))), []api.Object{m5, n5}, sets(state(only(m)), state(only(n))), api.OK)
	refused(t, "what is created is not there for others", []api.Object{d}, sets(create(v), gone("w")), api.ErrNone)
}

// P10.2: of several objects of one handle the first is meant, and the others keep their order, wherever they stand.
func TestHandlesThatStandTwice(t *testing.T) {
	a := api.Object{Handle: "a", Kind: api.KdVmd, Parent: "p"}
	b := api.Object{Handle: "a", Kind: api.KdMetric, Parent: "q", Hi: 9}
	c := api.Object{Handle: "a", Kind: 77, Parent: "r"}
	y, z := api.Object{Handle: "A"}, api.Object{Handle: "z", Lo: 3}
	l := []api.Object{z, b, a, y, c, z, b}
	expect(t, "in order", l, nil, []api.Object{y, b, a, c, b, z, z}, nil, api.OK)
	expect(t, "delete", l, sets(gone("a")), []api.Object{y, a, c, b, z, z}, sets(create(b)), api.OK)
	five := b
	five.Has, five.Value = true, 5
	expect(t, "state", l, sets(state(only(five))), []api.Object{y, five, a, c, b, z, z}, sets(state(only(b))), api.OK)
	wide := b
	wide.Hi = 99
	expect(t, "desc", l, sets(desc(wide)), []api.Object{y, wide, a, c, b, z, z}, sets(desc(b)), api.OK)
	refused(t, "kind of the second one", l, sets(desc(a)), api.ErrKind)
	refused(t, "create", l, sets(create(a)), api.ErrTwice)
	slices.Reverse(l)
	l[0], l[2] = l[2], l[0]
	refused(t, "kind of the first one", l, sets(desc(a)), api.ErrKind)
	refused(t, "the same kind, but not of the first one", []api.Object{c, a}, sets(state(only(a))), api.ErrKind)
	refused(t, "parent of the first one", []api.Object{{Handle: "a", Kind: api.KdVmd, Parent: "o"}, a}, sets(desc(a)), api.ErrParent)
	expect(t, "the last one", []api.Object{a}, sets(gone("a")), nil, sets(create(a)), api.OK)
	expect(t, "equal ones", []api.Object{a, a, a}, sets(gone("a")), []api.Object{a, a}, sets(create(a)), api.OK)
}

// P10.2: objects that are not what a tree has stay as they are; so do ones whose handles are none, to which no change can be made.
func TestListsOfAnything(t *testing.T) {
	var l []api.Object
	for i, h := range strange {
		l = append(l, api.Object{Handle: h, Kind: uint8(i * 11), Parent: h, Lo: 1, Hi: -1, Value: math.MinInt64, Assoc: 200, Digits: 99})
	}
	want, _ := plainApply(l, nil)
	expect(t, "anything", l, nil, want, nil, api.OK)
	d := of("d")
	expect(t, "one more", l, sets(create(d)), insert(want, d), sets(gone("d")), api.OK)
	odd := api.Object{Handle: "v", Kind: api.KdVmd, Parent: "d", Value: 7, On: true, Lo: 4}
	back := api.Object{Handle: "v", Kind: api.KdVmd, Parent: "d", Lo: 4}
	now := api.Object{Handle: "v", Kind: api.KdVmd, Parent: "d", Value: 7, On: true}
	expect(t, "an odd object's descriptor", []api.Object{odd}, sets(desc(of("v"))), []api.Object{now}, sets(desc(back)), api.OK)
	expect(t, "an odd object's state", []api.Object{odd}, sets(state(only(of("v")))), []api.Object{back}, sets(state(only(odd))), api.OK)
	expect(t, "an odd object", []api.Object{odd}, sets(gone("v")), nil, sets(create(odd)), api.OK)
}

// P10.2: lists in any order, and long ones, come out by handles, byte by byte.
func TestOrderOfTheResult(t *testing.T) {
	var l, want []api.Object
	for i := range 2000 {
		o := api.Object{Handle: "a" + strconv.Itoa(i*7919%2000), Kind: api.KdVmd, Parent: "d"}
		l, want = append(l, o), append(want, o)
	}
	slices.SortFunc(want, func(a, b api.Object) int { return strings.Compare(a.Handle, b.Handle) })
	expect(t, "long", l, nil, want, nil, api.OK)
	o := api.Object{Handle: "a1000-", Kind: api.KdMds}
	expect(t, "one more", l, sets(create(o)), insert(want, o), sets(gone("a1000-")), api.OK)
}

// P10.2: in long lists, too, objects of one handle keep their order, the first one being changed or gone.
func TestOrderOfManyOfOneHandle(t *testing.T) {
	var l []api.Object
	for i := range 500 {
		l = append(l, api.Object{Handle: "h" + strconv.Itoa(i*7919%7), Kind: api.KdMetric, Parent: "c", Hi: int64(i)})
	}
	asPlain(t, l, nil)
	asPlain(t, l, sets(gone("h3"), desc(api.Object{Handle: "h5", Kind: api.KdMetric, Parent: "c", Hi: 1000}), create(api.Object{Handle: "h", Kind: api.KdMds}), state(api.Object{Handle: "h0", Kind: api.KdMetric, Has: true})))
	slices.Reverse(l)
	asPlain(t, l, sets(gone("h6"), gone("h1")))
}

// P10.4: what an object becomes, whatever the object and the change, valid or not.
func TestDone(t *testing.T) {
	objects := append(bed(), api.Object{}, api.Object{Handle: "?", Kind: 99, Parent: "p", Type: 9, Ref: "r", Lo: 5, Hi: 4, Digits: 77, On: true, Has: true, Value: -3, Low: 8, High: 7, Assoc: 9})
	for _, o := range objects {
		for _, p := range objects {
			both := with(p, func(b *api.Object) { b.Handle, b.Kind = o.Handle, o.Kind })
			for kind := range 256 {
				want, is := api.Object{}, false
				switch uint8(kind) {
				case api.CgCreate:
					want, is = p, true
				case api.CgDesc:
					want, is = both, true
					want.On, want.Has, want.Value, want.Low, want.High, want.Assoc = o.On, o.Has, o.Value, o.Low, o.High, o.Assoc
				case api.CgState:
					want, is = o, true
					want.On, want.Has, want.Value, want.Low, want.High, want.Assoc = p.On, p.Has, p.Value, p.Low, p.High, p.Assoc
				}
				if got, there := Done(o, api.Change{Kind: uint8(kind), O: p}); got != want || there != is {
					t.Errorf("%v by %d of %v: %v %v, not %v %v", o, kind, p, got, there, want, is)
				}
			}
		}
	}
}

// P10.4: what Apply makes of each object is what Done says.
func TestApplyGoesByDone(t *testing.T) {
	for _, o := range bed() {
		for _, c := range []api.Change{desc(bare(o)), state(api.Object{Handle: o.Handle, Kind: o.Kind}), gone(o.Handle)} {
			out, e := Apply([]api.Object{o}, sets(c))
			want, there := Done(o, c)
			if e != api.OK || there != (len(out) == 1) || there && out[0] != want {
				t.Errorf("%v: %v %d, not %v %v", c, out, e, want, there)
			}
		}
	}
}

// P10.2, P10.3: what is returned belongs to who asked, and what is handed in is not kept.
func TestResultsAreNew(t *testing.T) {
	l, set := bed(), sets(desc(bare(of("m"))), state(only(of("l"))), gone("g"), create(api.Object{Handle: "z", Kind: api.KdMds}))
	want, _ := plainApply(l, set)
	inverse, _ := plainUndo(l, set)
	out, _ := Apply(l, set)
	back, _ := Undo(l, set)
	same, _ := Apply(l, nil)
	names := Handles(set)
	clear(l)
	clear(set)
	if !slices.Equal(out, want) || !slices.Equal(back, inverse) || !slices.Equal(same, bed()) || len(names) != 4 || names[0] != "g" {
		t.Error("results were changed by what was done to the arguments")
	}
	l = bed()
	for _, l := range [][]api.Object{l, l[:0], l[:3]} {
		out, _ = Apply(l, nil)
		clear(append(out, api.Object{Handle: "new"})[:len(out)])
		out, _ = Apply(l, sets(create(api.Object{Handle: "z", Kind: api.KdMds})))
		clear(out[:cap(out)])
	}
	if !slices.Equal(l, bed()) {
		t.Error("the list was changed by what was done to the result")
	}
}

// dice gives numbers in an order that is always the same.
type dice uint64

func (d *dice) below(n int) int {
	*d = *d*6364136223846793005 + 1442695040888963407
	return int(uint64(*d>>33) % uint64(n))
}

func pick[T any](d *dice, l []T) T {
	return l[d.below(len(l))]
}

func mix[T any](d *dice, l []T) []T {
	l = slices.Clone(l)
	for i := range l {
		j := d.below(i + 1)
		l[i], l[j] = l[j], l[i]
	}
	return l
}

// fewObjects and fewChanges are what small lists and sets are made of: objects of few handles that differ in what changes ask for, and changes of these, also ones that are not valid.
func fewObjects() []api.Object {
	return []api.Object{
		{Handle: "a", Kind: api.KdMds},
		{Handle: "a", Kind: api.KdMetric, Parent: "p", Hi: 9, Has: true, Value: 5},
		{Handle: "a", Kind: api.KdMetric, Parent: "q", Hi: 9},
		{Handle: "b", Kind: api.KdContext, Parent: "a", Type: 1, Assoc: api.AsYes},
		{Handle: "b", Kind: 44, Parent: "a", On: true},
		{Handle: "B", Kind: api.KdMds},
	}
}

func fewChanges() []api.Change {
	a := api.Object{Handle: "a", Kind: api.KdMetric, Has: true, Value: 77}
	b := api.Object{Handle: "b", Kind: api.KdContext}
	return []api.Change{
		create(api.Object{Handle: "a", Kind: api.KdMds}),
		create(api.Object{Handle: "b", Kind: api.KdContext, Parent: "a", Assoc: api.AsNo}),
		create(api.Object{Handle: "c", Kind: api.KdVmd, Parent: "a"}),
		create(api.Object{Handle: "c", Kind: api.KdVmd}),
		desc(api.Object{Handle: "a", Kind: api.KdMds}),
		desc(api.Object{Handle: "a", Kind: api.KdMetric, Parent: "p", Hi: 1}),
		desc(api.Object{Handle: "a", Kind: api.KdMetric, Parent: "q", Lo: 2, Hi: 3}),
		desc(api.Object{Handle: "b", Kind: api.KdContext, Parent: "a", Type: 2}),
		state(a), state(b), state(api.Object{Handle: "a", Kind: api.KdMds}), state(api.Object{Handle: "c", Kind: api.KdVmd}),
		gone("a"), gone("b"), gone("c"), gone("B"),
	}
}

// tuples calls with each list of at most n elements of the pool; it is not to be kept.
func tuples[T any](pool []T, n int, with func(l []T)) {
	var grow func(l []T)
	grow = func(l []T) {
		with(l)
		if len(l) == n {
			return
		}
		for _, x := range pool {
			grow(append(l[:len(l):len(l)], x))
		}
	}
	grow(nil)
}

// P10.1 to P10.3: all short lists, with all sets of at most two changes.
func TestAllShortListsAndSets(t *testing.T) {
	tuples(fewObjects(), 3, func(l []api.Object) {
		tuples(fewChanges(), 2, func(set []api.Change) { asPlain(t, l, set) })
	})
}

// P10.1 to P10.3: all lists of at most two, with all sets of at most three changes.
func TestAllSetsOfThree(t *testing.T) {
	tuples(fewObjects(), 2, func(l []api.Object) {
		tuples(fewChanges(), 3, func(set []api.Change) { asPlain(t, l, set) })
	})
}

// fill gives the object other contents, which are without fault.
func fill(d *dice, o *api.Object) {
	switch o.Kind {
	case api.KdMetric:
		o.Lo, o.Hi, o.Digits, o.Has = -int64(d.below(5)), int64(d.below(5)), uint8(d.below(7)), d.below(2) == 0
		o.Value = 0
		if o.Has {
			o.Value = o.Lo + int64(d.below(int(o.Hi-o.Lo)+1))
		}
	case api.KdLimit:
		o.Type, o.On, o.Low, o.High = uint8(d.below(4)), d.below(2) == 0, -int64(d.below(5)), int64(d.below(5))
	case api.KdCondition:
		o.Type, o.On = uint8(d.below(4)), d.below(2) == 0
	case api.KdSignal, api.KdAlertSystem:
		o.On = d.below(2) == 0
	case api.KdContext:
		o.Type, o.Assoc = uint8(d.below(4)), uint8(d.below(4))
	}
}

// some gives an object without fault, of that handle; its Kind and Parent are mostly the same for one handle.
func some(d *dice, h string) api.Object {
	o := bed()[(int(h[len(h)-1])+d.below(10)/9)%len(bed())]
	o.Handle = h
	fill(d, &o)
	if o.Kind != api.KdMds && d.below(12) == 0 {
		o.Parent = "other"
	}
	return o
}

// someSet gives a set of at most that many changes of these handles, which mostly fit the list.
func someSet(d *dice, l []api.Object, names []string, most int) []api.Change {
	var set []api.Change
	for _, h := range mix(d, names)[:d.below(most+1)] {
		o := some(d, h)
		there := slices.ContainsFunc(l, func(o api.Object) bool { return o.Handle == h })
		kind := api.CgCreate
		if there != (d.below(20) == 0) {
			kind = []uint8{api.CgDesc, api.CgState, api.CgDelete}[d.below(3)]
		}
		set = append(set, [...]api.Change{api.CgCreate: create(o), api.CgDesc: desc(bare(o)), api.CgState: state(only(o)), api.CgDelete: gone(h)}[kind])
	}
	return set
}

// someList gives objects without fault with some of these handles, each at most once.
func someList(d *dice, names []string) []api.Object {
	var l []api.Object
	for _, h := range mix(d, names)[:d.below(len(names)+1)] {
		l = append(l, some(d, h))
	}
	return l
}

func names(n int) []string {
	var l []string
	for i := range n {
		l = append(l, "n"+string(rune('a'+i)))
	}
	return l
}

// inOrder gives the list by handles.
func inOrder(l []api.Object) []api.Object {
	l = slices.Clone(l)
	slices.SortStableFunc(l, func(a, b api.Object) int { return strings.Compare(a.Handle, b.Handle) })
	return l
}

// undone expects of a set that fits: its inverse is valid, restores the list, and is itself taken back by the set.
func undone(t *testing.T, l []api.Object, set []api.Change) {
	t.Helper()
	out, _ := Apply(l, set)
	back, _ := Undo(l, set)
	if e := May(back); e != api.OK || len(back) != len(set) {
		t.Errorf("%v: the inverse %v: %d", set, back, e)
	}
	again, e := Apply(out, back)
	if e != api.OK || !slices.Equal(again, inOrder(l)) {
		t.Errorf("%v: restored by %v: %v %d, not %v", set, back, again, e, l)
	}
	forth, e := Undo(out, back)
	if e != api.OK || !Same(forth, set) {
		t.Errorf("%v: the inverse of the inverse: %v %d", set, forth, e)
	}
}

// scoped expects of a set that fits: other handles' objects stay, and those of the set exist unless they are deleted.
func scoped(t *testing.T, l []api.Object, set []api.Change) {
	t.Helper()
	out, _ := Apply(l, set)
	mine := func(o api.Object) bool { return slices.Contains(Handles(set), o.Handle) }
	if got, want := slices.DeleteFunc(slices.Clone(out), mine), slices.DeleteFunc(inOrder(l), mine); !slices.Equal(got, want) {
		t.Errorf("%v: of other handles: %v, not %v", set, got, want)
	}
	for _, c := range set {
		there := slices.ContainsFunc(out, func(o api.Object) bool { return o.Handle == c.O.Handle })
		if there != (c.Kind != api.CgDelete) {
			t.Errorf("%v: %s exists: %v", set, c.O.Handle, there)
		}
	}
}

// orders calls with the set in each order.
func orders(set []api.Change, with func(set []api.Change)) {
	var turn func(k int)
	set = slices.Clone(set)
	turn = func(k int) {
		if k == len(set) {
			with(set)
			return
		}
		for i := k; i < len(set); i++ {
			set[k], set[i] = set[i], set[k]
			turn(k + 1)
			set[k], set[i] = set[i], set[k]
		}
	}
	turn(0)
}

// anyOrder expects the same result of the set in each other order, or an error in each, and of valid ones the inverse's changes in the same order.
func anyOrder(t *testing.T, l []api.Object, set []api.Change) {
	t.Helper()
	out, e := Apply(l, set)
	orders(set, func(other []api.Change) {
		got, f := Apply(l, other)
		if (e == api.OK) != (f == api.OK) || !slices.Equal(got, out) {
			t.Errorf("%v: %v %d; as %v: %v %d", set, out, e, other, got, f)
		}
		if (May(set) == api.OK) != (May(other) == api.OK) || !slices.Equal(Handles(set), Handles(other)) {
			t.Errorf("%v and %v are not alike", set, other)
		}
		for i, c := range other {
			if back, _ := Undo(l, other); f == api.OK && back[i].O.Handle != c.O.Handle {
				t.Errorf("%v: inverse %v", other, back)
			}
		}
	})
}

// P10.5, P10.6: the inverse and the scope of each change of each kind of object, and of a set of all kinds.
func TestInverseAndScopeOfEachChange(t *testing.T) {
	var d dice
	for _, o := range bed() {
		for range 20 {
			n := o
			fill(&d, &n)
			for _, c := range []api.Change{desc(bare(n)), state(only(n)), gone(o.Handle)} {
				undone(t, bed(), sets(c))
				scoped(t, bed(), sets(c))
			}
			undone(t, without(o.Handle), sets(create(n)))
			scoped(t, without(o.Handle), sets(create(n)))
		}
	}
	tight := of("m")
	tight.Lo, tight.Hi = 1, 2
	undone(t, bed(), sets(desc(bare(tight)))) // its value is not in its range afterwards, and is again
	far := of("m")
	far.Value = -api.MaxNumber
	undone(t, bed(), sets(state(only(far))))
	undone(t, bed(), nil)
	undone(t, nil, nil)
}

// P10.1 to P10.7: long sequences, each list being what came of the one before; now and then a new one.
func TestLongSequences(t *testing.T) {
	var d dice
	fit := 0
	for range 300 {
		pool := names(2 + d.below(14))
		l := someList(&d, pool)
		for range 30 {
			set := someSet(&d, l, pool, min(len(pool), 9))
			asPlain(t, l, set)
			if Fits(l, set) != api.OK {
				continue
			}
			fit++
			scoped(t, l, set)
			out, _ := Apply(l, set)
			if !slices.ContainsFunc(append(out, l...), func(o api.Object) bool { return object.May(o) != api.OK }) {
				undone(t, l, set)
			}
			l = mix(&d, out)
			l = slices.DeleteFunc(l, func(o api.Object) bool { return object.May(o) != api.OK })
		}
	}
	if fit < 2000 {
		t.Errorf("only %d sets fit", fit)
	}
}

// P10.7: sets in all orders, ones that fit, ones that do not, and ones that are not valid; also where handles stand twice in the list.
func TestAnyOrder(t *testing.T) {
	var d dice
	for i := range 400 {
		pool := names(2 + d.below(6))
		l := someList(&d, pool)
		if i%4 == 0 {
			l = append(l, someList(&d, pool)...)
		}
		set := someSet(&d, l, pool, min(len(pool), 5))
		if i%5 == 0 && len(set) > 0 {
			set[d.below(len(set))] = pick(&d, fewChanges())
		}
		anyOrder(t, l, set)
	}
	anyOrder(t, bed(), sets(gone("m"), create(api.Object{Handle: "z", Kind: api.KdMds}), desc(bare(of("k"))), state(only(of("l")))))
	anyOrder(t, bed(), sets(gone("zz"), create(of("d")), state(api.Object{Handle: "s", Kind: api.KdLimit}), desc(api.Object{Handle: "v", Kind: api.KdVmd, Parent: "q"})))
	anyOrder(t, bed(), sets(gone("m"), gone("l"), gone("m")))
}

// The examples of the chapter.
func TestExamples(t *testing.T) {
	d, v := api.Object{Handle: "d", Kind: api.KdMds}, api.Object{Handle: "v", Kind: api.KdVmd, Parent: "d"}
	l := []api.Object{d}
	expect(t, "create", l, sets(create(v)), []api.Object{d, v}, sets(gone("v")), api.OK)
	refused(t, "twice", l, sets(create(d)), api.ErrTwice)
	refused(t, "none", l, sets(state(only(v))), api.ErrNone)
	refused(t, "kind", l, sets(state(api.Object{Handle: "d", Kind: api.KdVmd})), api.ErrKind)
	refused(t, "a state with a parent", append(l, v), sets(state(v)), api.ErrChange)
	refused(t, "two of one handle", append(l, v), sets(desc(v), state(only(v))), api.ErrChange)
}
