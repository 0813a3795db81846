package contain

import (
	"slices"
	"testing"

	"bedside/api"
)

// parentsOf says which kinds each kind may be under; a KdMds is under none.
var parentsOf = map[uint8][]uint8{
	api.KdVmd:         {api.KdMds},
	api.KdChannel:     {api.KdVmd},
	api.KdMetric:      {api.KdChannel},
	api.KdAlertSystem: {api.KdMds, api.KdVmd},
	api.KdCondition:   {api.KdAlertSystem},
	api.KdSignal:      {api.KdAlertSystem},
	api.KdLimit:       {api.KdAlertSystem},
	api.KdContext:     {api.KdMds},
}

var kidsOf = map[uint8][]uint8{
	api.KdMds:         {api.KdVmd, api.KdAlertSystem, api.KdContext},
	api.KdVmd:         {api.KdChannel, api.KdAlertSystem},
	api.KdChannel:     {api.KdMetric},
	api.KdAlertSystem: {api.KdCondition, api.KdSignal, api.KdLimit},
}

var refersTo = map[uint8][]uint8{
	api.KdCondition: {api.KdMetric},
	api.KdLimit:     {api.KdMetric},
	api.KdSignal:    {api.KdCondition, api.KdLimit},
}

// limit is the group of a kind, and its maximum.
type limit struct {
	group uint8
	most  int
}

var limits = map[uint8]limit{
	api.KdMds:         {api.KdMds, 4},
	api.KdVmd:         {api.KdVmd, 8},
	api.KdChannel:     {api.KdChannel, 8},
	api.KdMetric:      {api.KdMetric, 16},
	api.KdAlertSystem: {api.KdAlertSystem, 1},
	api.KdCondition:   {api.KdCondition, 16},
	api.KdSignal:      {api.KdCondition, 16},
	api.KdLimit:       {api.KdCondition, 16},
	api.KdContext:     {api.KdContext, 8},
}

// levelsOf says at which levels each kind may be.
var levelsOf = map[uint8][2]int{
	api.KdMds:         {1, 1},
	api.KdVmd:         {2, 2},
	api.KdChannel:     {3, 3},
	api.KdMetric:      {4, 4},
	api.KdAlertSystem: {2, 3},
	api.KdCondition:   {3, 4},
	api.KdSignal:      {3, 4},
	api.KdLimit:       {3, 4},
	api.KdContext:     {2, 2},
}

// wrong holds kinds that do not exist.
var wrong = []uint8{0, 10, 11, 15, 16, 17, 63, 64, 65, 128, 254, 255}

// allKinds gives every kind that exists.
func allKinds() []uint8 {
	return []uint8{1, 2, 3, 4, 5, 6, 7, 8, 9}
}

// pairs calls does for each two numbers that a kind's type can hold.
func pairs(does func(a, b uint8)) {
	for a := range 256 {
		for b := range 256 {
			does(uint8(a), uint8(b))
		}
	}
}

// some gives a list of n times the kind.
func some(kind uint8, n int) []uint8 {
	return slices.Repeat([]uint8{kind}, n)
}

// P5.1: each kind under each other one, under itself, and under 0.
func TestUnderOfAllPairs(t *testing.T) {
	pairs(func(kind, parent uint8) {
		want := slices.Contains(parentsOf[kind], parent) || kind == api.KdMds && parent == 0
		if Under(kind, parent) != want {
			t.Errorf("%d under %d: not %v", kind, parent, want)
		}
	})
}

// P5.1
func TestParentsAndKidsOfAllKinds(t *testing.T) {
	for i := range 256 {
		kind := uint8(i)
		if l := Parents(kind); !slices.Equal(l, parentsOf[kind]) {
			t.Errorf("parents of %d: %v", kind, l)
		}
		if l := Kids(kind); !slices.Equal(l, kidsOf[kind]) {
			t.Errorf("kids of %d: %v", kind, l)
		}
	}
}

// P5.1: a list belongs to who asked for it.
func TestParentsAndKidsAreNewLists(t *testing.T) {
	for _, kind := range allKinds() {
		for _, ask := range []func(uint8) []uint8{Parents, Kids} {
			first := ask(kind)
			want := slices.Clone(first)
			second := ask(kind)
			for i := range first {
				first[i] = 99
			}
			if !slices.Equal(second, want) || !slices.Equal(ask(kind), want) {
				t.Errorf("%d: %v %v, not %v", kind, second, ask(kind), want)
			}
		}
	}
}

// P5.1
func TestRefersOfAllPairs(t *testing.T) {
	pairs(func(kind, to uint8) {
		if want := slices.Contains(refersTo[kind], to); Refers(kind, to) != want {
			t.Errorf("%d to %d: not %v", kind, to, want)
		}
	})
}

// P5.2
func TestGroupsMaximaAndLevelsOfAllKinds(t *testing.T) {
	for i := range 256 {
		kind := uint8(i)
		if g, n := Group(kind), Most(kind); g != limits[kind].group || n != limits[kind].most {
			t.Errorf("%d: group %d, at most %d", kind, g, n)
		}
		if least, most := Levels(kind); least != levelsOf[kind][0] || most != levelsOf[kind][1] {
			t.Errorf("%d: levels %d to %d", kind, least, most)
		}
	}
}

// P5.3: just the maximum of each group, and one more.
func TestCountOfOneKind(t *testing.T) {
	for _, kind := range allKinds() {
		most := limits[kind].most
		for n := range 40 {
			want := api.OK
			if n > most {
				want = api.ErrMany
			}
			if e := Count(some(kind, n)); e != want {
				t.Errorf("%d of %d: %v", n, kind, e)
			}
		}
		if e := Count(some(kind, 100_000)); e != api.ErrMany {
			t.Errorf("very many of %d: %v", kind, e)
		}
	}
}

// P5.3: KdCondition, KdSignal and KdLimit count together, whatever they stand among.
func TestCountOfTheGroupOfThree(t *testing.T) {
	others := slices.Concat(some(api.KdMetric, 16), some(api.KdContext, 8))
	for conditions := range 18 {
		for signals := range 18 - conditions {
			for bounds := range 18 - conditions - signals {
				l := slices.Concat(some(api.KdLimit, bounds), others, some(api.KdCondition, conditions), some(api.KdSignal, signals))
				want := api.OK
				if conditions+signals+bounds > 16 {
					want = api.ErrMany
				}
				if e := Count(l); e != want {
					t.Fatalf("%d, %d, %d: %v", conditions, signals, bounds, e)
				}
			}
		}
	}
}

// full gives as many of each group as there may be.
func full() []uint8 {
	l := slices.Concat(some(api.KdCondition, 5), some(api.KdSignal, 6), some(api.KdLimit, 5))
	for kind, x := range limits {
		if x.group == kind && kind != api.KdCondition {
			l = append(l, some(kind, x.most)...)
		}
	}
	slices.Sort(l)
	return l
}

// P5.3: groups do not count together, and one of any kind is too many when all are full.
func TestCountOfAllGroupsAtOnce(t *testing.T) {
	if e := Count(nil); e != api.OK {
		t.Errorf("nil: %v", e)
	}
	if e := Count([]uint8{}); e != api.OK {
		t.Errorf("none: %v", e)
	}
	if e := Count(full()); e != api.OK {
		t.Errorf("full: %v", e)
	}
	for _, kind := range allKinds() {
		if e := Count(append(full(), kind)); e != api.ErrMany {
			t.Errorf("full, and %d behind: %v", kind, e)
		}
		if e := Count(append([]uint8{kind}, full()...)); e != api.ErrMany {
			t.Errorf("full, and %d ahead: %v", kind, e)
		}
	}
}

// P5.3: a kind that does not exist comes first, wherever it stands.
func TestCountOfKindsThatDoNotExist(t *testing.T) {
	for _, kind := range wrong {
		for i, l := range [][]uint8{
			{kind},
			some(kind, 100),
			{api.KdMds, kind, api.KdVmd},
			append(full(), kind),
			append([]uint8{kind}, some(api.KdAlertSystem, 2)...),
			append(some(api.KdAlertSystem, 2), kind),
			append(some(api.KdLimit, 300), kind),
		} {
			if e := Count(l); e != api.ErrKind {
				t.Errorf("%d, %d: %v", kind, i, e)
			}
		}
	}
}

// P5.3
func TestRoomBesideOneKind(t *testing.T) {
	for _, kind := range allKinds() {
		for _, other := range allKinds() {
			for n := range 40 {
				want := api.OK
				if limits[kind].group == limits[other].group && n >= limits[kind].most {
					want = api.ErrMany
				}
				if e := Room(kind, some(other, n)); e != want {
					t.Errorf("%d beside %d of %d: %v", kind, n, other, e)
				}
			}
		}
		if Room(kind, nil) != api.OK || Room(kind, []uint8{}) != api.OK {
			t.Errorf("%d alone: %v %v", kind, Room(kind, nil), Room(kind, []uint8{}))
		}
	}
}

// P5.3: what others there are of the kind's group is counted together.
func TestRoomInTheGroupOfThree(t *testing.T) {
	for _, kind := range []uint8{api.KdCondition, api.KdSignal, api.KdLimit} {
		l := slices.Concat(some(api.KdLimit, 5), some(api.KdVmd, 8), some(api.KdCondition, 5), some(api.KdSignal, 5))
		if e := Room(kind, l); e != api.OK {
			t.Errorf("%d beside 15: %v", kind, e)
		}
		for _, one := range []uint8{api.KdCondition, api.KdSignal, api.KdLimit} {
			if e := Room(kind, append(l, one)); e != api.ErrMany {
				t.Errorf("%d beside 16: %v", kind, e)
			}
		}
	}
}

// P5.3
func TestRoomOfKindsThatDoNotExist(t *testing.T) {
	many := some(api.KdAlertSystem, 9)
	for _, kind := range wrong {
		for i, e := range []api.Errno{
			Room(kind, nil),
			Room(kind, many),
			Room(kind, []uint8{kind}),
			Room(kind, full()),
			Room(api.KdMetric, []uint8{kind}),
			Room(api.KdMetric, append(full(), kind)),
			Room(api.KdAlertSystem, append(many, kind)),
			Room(api.KdAlertSystem, append([]uint8{kind}, many...)),
		} {
			if e != api.ErrKind {
				t.Errorf("%d, %d: %v", kind, i, e)
			}
		}
	}
}

// P5.3: what is passed stays as it is.
func TestListsAreNotChanged(t *testing.T) {
	l := []uint8{api.KdLimit, 99, api.KdMds, api.KdMetric, 0, api.KdMds}
	want := slices.Clone(l)
	part := l[:1]
	Count(l)
	Room(api.KdMds, l)
	Count(part)
	Room(api.KdMds, part)
	if !slices.Equal(l, want) {
		t.Errorf("%v, not %v", l, want)
	}
}

// P5.4
func TestStand(t *testing.T) {
	d := api.Object{Handle: "d", Kind: api.KdMds}
	v := api.Object{Handle: "v", Kind: api.KdVmd, Parent: "d"}
	c := api.Object{Handle: "c", Kind: api.KdChannel, Parent: "v"}
	s := api.Object{Handle: "s", Kind: api.KdAlertSystem, Parent: "d", On: true}
	for i, x := range []struct {
		o, parent api.Object
		want      api.Errno
	}{
		{d, api.Object{}, api.OK},
		{d, d, api.ErrParent},
		{d, v, api.ErrParent},
		{d, api.Object{Handle: "x"}, api.ErrParent},
		{d, api.Object{Parent: "x"}, api.ErrParent},
		{d, api.Object{On: true}, api.ErrParent},
		{d, api.Object{High: 1}, api.ErrParent},
		{d, api.Object{Kind: 10}, api.ErrParent},
		{api.Object{Handle: "d", Kind: api.KdMds, Parent: "x"}, api.Object{}, api.ErrParent},
		{api.Object{Handle: "d", Kind: api.KdMds, Parent: "x"}, api.Object{Handle: "x"}, api.ErrParent},
		{api.Object{Handle: "e", Kind: api.KdMds, Parent: "d"}, d, api.ErrParent},
		{v, d, api.OK},
		{v, v, api.ErrParent},
		{v, api.Object{}, api.ErrParent},
		{v, api.Object{Handle: "d"}, api.ErrParent},
		{v, api.Object{Handle: "d", Kind: 10}, api.ErrParent},
		{v, api.Object{Handle: "d", Kind: 255}, api.ErrParent},
		{v, api.Object{Handle: "e", Kind: api.KdMds}, api.ErrParent},
		{api.Object{Handle: "v", Kind: api.KdVmd, Parent: "e"}, d, api.ErrParent},
		{api.Object{Handle: "v", Kind: api.KdVmd}, d, api.ErrParent},
		{c, v, api.OK},
		{c, d, api.ErrParent},
		{api.Object{Handle: "c", Kind: api.KdChannel, Parent: "d"}, d, api.ErrParent},
		{s, d, api.OK},
		{api.Object{Handle: "s", Kind: api.KdAlertSystem, Parent: "v"}, v, api.OK},
		{api.Object{Handle: "s", Kind: api.KdAlertSystem, Parent: "c"}, c, api.ErrParent},
		{api.Object{Handle: "k", Kind: api.KdCondition, Parent: "s"}, s, api.OK},
		{api.Object{}, api.Object{}, api.ErrKind},
		{api.Object{Handle: "d"}, d, api.ErrKind},
		{api.Object{Handle: "v", Kind: 10, Parent: "d"}, d, api.ErrKind},
		{api.Object{Handle: "v", Kind: 255, Parent: "e"}, d, api.ErrKind},
		{api.Object{Handle: "v", Kind: 10}, api.Object{Kind: 10}, api.ErrKind},
	} {
		if e := Stand(x.o, x.parent); e != x.want {
			t.Errorf("%d: %v, not %v", i, e, x.want)
		}
	}
}

// P5.4: each kind under each other one, with the parent's handle and with another one.
func TestStandOfAllPairs(t *testing.T) {
	pairs(func(kind, parent uint8) {
		named := api.Object{Handle: "o", Kind: kind, Parent: "p"}
		unnamed := api.Object{Handle: "o", Kind: kind}
		over := api.Object{Handle: "p", Kind: parent}
		bad := api.ErrParent
		if limits[kind].group == 0 {
			bad = api.ErrKind
		}
		good := bad
		if slices.Contains(parentsOf[kind], parent) {
			good = api.OK
		}
		if e := Stand(named, over); e != good {
			t.Errorf("%d under %d: %v", kind, parent, e)
		}
		if a, b := Stand(unnamed, over), Stand(named, api.Object{Handle: "q", Kind: parent}); a != bad || b != bad {
			t.Errorf("%d, not under %d: %v %v", kind, parent, a, b)
		}
		if e := Stand(named, api.Object{}); e != bad {
			t.Errorf("%d with a Parent, under none: %v", kind, e)
		}
	})
}

// P5.5
func TestUnderKidsAndParentsAgree(t *testing.T) {
	pairs(func(kind, parent uint8) {
		under := Under(kind, parent)
		if parent != 0 && (under != slices.Contains(Kids(parent), kind) || under != slices.Contains(Parents(kind), parent)) {
			t.Errorf("%d, %d: %v, kids %v, parents %v", kind, parent, under, Kids(parent), Parents(kind))
		}
		if kind == parent && under {
			t.Errorf("%d under itself", kind)
		}
	})
}

// climb calls does with the number of levels of each path from the kind up to a KdMds. It stops a path that is too long.
func climb(t *testing.T, kind uint8, level int, does func(level int)) {
	if kind == api.KdMds {
		does(level)
		return
	}
	if level == 4 || len(Parents(kind)) == 0 {
		t.Errorf("a path ends at %d, after %d levels", kind, level)
		return
	}
	for _, parent := range Parents(kind) {
		climb(t, parent, level+1, does)
	}
}

// P5.5: every path leads to KdMds, and Levels tells the shortest and the longest one.
func TestPathsLeadToKdMds(t *testing.T) {
	for _, kind := range allKinds() {
		var lengths []int
		climb(t, kind, 1, func(level int) { lengths = append(lengths, level) })
		least, most := Levels(kind)
		if len(lengths) == 0 || slices.Min(lengths) != least || slices.Max(lengths) != most {
			t.Errorf("%d: paths of %v, levels %d to %d", kind, lengths, least, most)
		}
	}
}

// near gives numbers around the maximum of the kind's group.
func near(kind uint8) []int {
	n := limits[kind].most
	return []int{0, 1, n - 1, n, n + 1}
}

// crowds calls does for lists of one, two or three kinds, with numbers around their maxima.
func crowds(does func(l []uint8)) {
	for _, a := range allKinds() {
		for _, b := range allKinds() {
			for _, n := range near(a) {
				for _, m := range near(b) {
					l := slices.Concat(some(a, n), some(b, m))
					does(l)
					does(append(l, api.KdSignal))
					does(append(l, 10))
				}
			}
		}
	}
}

// P5.6: the others are such as may be there, since Count counts the groups that Room does not ask for.
func TestRoomIsWhatCountSaysOfOneMore(t *testing.T) {
	rooms := map[api.Errno]int{}
	crowds(func(others []uint8) {
		if Count(others) == api.ErrMany {
			return
		}
		for kind := range uint8(12) {
			e := Room(kind, others)
			if all := Count(append(others, kind)); e != all {
				t.Fatalf("%d beside %v: %v, not %v", kind, others, e, all)
			}
			rooms[e]++
		}
	})
	if rooms[api.OK] == 0 || rooms[api.ErrMany] == 0 || rooms[api.ErrKind] == 0 {
		t.Errorf("%v", rooms)
	}
}

// P5.6: however many there are of other groups.
func TestRoomWithSomeIsRoomWithFewer(t *testing.T) {
	crowds(func(others []uint8) {
		for _, kind := range allKinds() {
			if Room(kind, others) != api.OK {
				continue
			}
			for i := range others {
				fewer := slices.Delete(slices.Clone(others), i, i+1)
				if e := Room(kind, fewer); e != api.OK {
					t.Fatalf("%d beside %v: %v", kind, fewer, e)
				}
			}
		}
	})
}
