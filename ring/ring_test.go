package ring

import (
	"math"
	"math/rand/v2"
	"slices"
	"strings"
	"testing"

	"bedside/api"
)

const most = 1 << 20 // MaxVersions

// below and above are versions that no entry has.
var (
	below = []int{-1, -2, -8, -most, math.MinInt32, math.MinInt + 1, math.MinInt}
	above = []int{most + 1, most + 2, 2 * most, math.MaxInt32, math.MaxInt - 1, math.MaxInt}
)

// sizes are all sizes of rings.
var sizes = []int{1, 2, 3, 4, 5, 6, 7, 8}

// some gives an entry of the handle with that stamp; O tells the stamp, too.
func some(handle string, there bool, desc, state int) api.Entry {
	e := api.Entry{Handle: handle, There: there, Stamp: api.Stamp{Desc: desc, State: state}}
	if there {
		e.O = api.Object{Handle: handle, Kind: api.KdMetric, Parent: "c", Hi: int64(desc), Has: true, Value: int64(state)}
	}
	return e
}

func there(desc, state int) api.Entry   { return some("m", true, desc, state) }
func deleted(desc, state int) api.Entry { return some("m", false, desc, state) }

// fresh gives a new ring.
func fresh(t *testing.T, handle string, size int) *Ring {
	t.Helper()
	r, e := New(handle, size)
	if r == nil || e != api.OK {
		t.Fatalf("New of %q, %d: %v %d", handle, size, r, e)
	}
	return r
}

func put(t *testing.T, r *Ring, version int, e api.Entry, want api.Errno) {
	t.Helper()
	if got := r.Put(version, e); got != want {
		t.Fatalf("Put of %d, %v: %d, not %d", version, e, got, want)
	}
}

func at(t *testing.T, r *Ring, version int, want api.Entry, wantErr api.Errno) {
	t.Helper()
	if e, err := r.At(version); e != want || err != wantErr {
		t.Fatalf("At of %d: %v %d, not %v %d", version, e, err, want, wantErr)
	}
}

// past is an entry with its version.
type past struct {
	version int
	e       api.Entry
}

// plain is a ring as the chapter says it: all that was ever added, in order.
type plain struct {
	handle string
	size   int
	all    []past
}

func (p *plain) copy() *plain {
	return &plain{handle: p.handle, size: p.size, all: slices.Clone(p.all)}
}

// dropped is how many of all are not kept any more.
func (p *plain) dropped() int {
	return max(0, len(p.all)-p.size)
}

// last gives the last version (-1 if there is none) and the last stamp (zero if there is none).
func (p *plain) last() (int, api.Stamp) {
	if len(p.all) == 0 {
		return -1, api.Stamp{}
	}
	l := p.all[len(p.all)-1]
	return l.version, l.e.Stamp
}

// may says by the chapter's words whether the entry may be added.
func (p *plain) may(version int, e api.Entry) bool {
	last, s := p.last()
	if version < 0 || version > most || version <= last || e.Handle != p.handle {
		return false
	}
	if e.There && e.O.Handle != p.handle || !e.There && e.O != (api.Object{}) {
		return false
	}
	n := e.Stamp
	if n.Desc < 1 || n.State < 1 || n.Desc > most || n.State > most { // a zero stamp is valid, but none is Ahead of it
		return false
	}
	return s != n && s.Desc <= n.Desc && s.State <= n.State
}

func (p *plain) put(version int, e api.Entry) api.Errno {
	if !p.may(version, e) {
		return api.ErrArg
	}
	p.all = append(p.all, past{version, e})
	return api.OK
}

// whole gives what would be read at a version of 0 or more if nothing had been dropped, and where it stands in all, -1 if nowhere.
func (p *plain) whole(version int) (api.Entry, int) {
	e, place := api.Entry{Handle: p.handle}, -1
	for i, x := range p.all {
		if x.version <= version {
			e, place = x.e, i
		}
	}
	return e, place
}

func (p *plain) at(version int) (api.Entry, api.Errno) {
	if version < 0 {
		return api.Entry{}, api.ErrArg
	}
	e, place := p.whole(version)
	if place < p.dropped() && p.dropped() > 0 {
		return api.Entry{}, api.ErrGone
	}
	return e, api.OK
}

// probes gives versions to ask about: those of all entries, the ones beside them, and those at all edges.
func (p *plain) probes() []int {
	l := slices.Concat(below, above, []int{0, 1, most - 1, most})
	for _, x := range p.all {
		l = append(l, x.version-1, x.version, x.version+1)
	}
	return l
}

// same holds all that the ring shows against p.
func same(t *testing.T, r *Ring, p *plain) {
	t.Helper()
	kept := p.all[p.dropped():]
	var versions []int
	for _, x := range kept {
		versions = append(versions, x.version)
	}
	if l := r.Versions(); !slices.Equal(l, versions) || r.Many() != len(kept) || r.Dropped() != p.dropped() {
		t.Fatalf("%v, %d kept, %d dropped; not %v, %d, %d", l, r.Many(), r.Dropped(), versions, len(kept), p.dropped())
	}
	want, is := past{0, api.Entry{Handle: p.handle}}, len(kept) > 0
	if is {
		want = kept[len(kept)-1]
	}
	if v, e, got := r.Last(); v != want.version || e != want.e || got != is {
		t.Fatalf("Last: %d %v %t, not %v %t", v, e, got, want, is)
	}
	for _, version := range p.probes() {
		e, err := p.at(version)
		at(t, r, version, e, err)
	}
}

func bothPut(t *testing.T, r *Ring, p *plain, version int, e api.Entry) {
	t.Helper()
	put(t, r, version, e, p.put(version, e))
}

// both gives a ring of m to which that many entries were added, and the same as a plain one. The versions and stamps are those of step.
func both(t *testing.T, size, many int) (*Ring, *plain) {
	t.Helper()
	r, p := fresh(t, "m", size), &plain{handle: "m", size: size}
	for i := range many {
		x := step(i)
		put(t, r, x.version, x.e, api.OK)
		if p.put(x.version, x.e) != api.OK {
			t.Fatalf("%v is not plain", x)
		}
	}
	return r, p
}

// step gives the entry that is added after i others: the versions are 2, 5, 8 and so on, and each third entry is that of a deleted object.
func step(i int) past {
	return past{2 + 3*i, some("m", i%3 != 2, 2+i-i/3, 2+i/3)}
}

// P16.1: a handle has 1 to MaxHandle bytes, whatever they are, and a size is from 1 to MaxRing.
func TestNew(t *testing.T) {
	good := []string{"m", "mds0.vmd-1", "A", " ", "-", ".", "a..b", "\x00", "\xff", "1", "é", "éééééééé", strings.Repeat("z", 15), strings.Repeat("z", 16), strings.Repeat("\x00", 16)}
	bad := []string{"", strings.Repeat("z", 17), strings.Repeat("\x00", 17), "ééééééééé", "ééééééééa", strings.Repeat("a", 1<<16)}
	for _, size := range slices.Concat(below, above, []int{0, 1, 2, 3, 4, 5, 6, 7, 8, 9, 10, 16, 256, 257}) {
		for _, h := range slices.Concat(good, bad) {
			may := slices.Contains(good, h) && 1 <= size && size <= 8
			r, e := New(h, size)
			if may && (r == nil || e != api.OK) || !may && (r != nil || e != api.ErrArg) {
				t.Fatalf("New of %.40q, %d: %v %d", h, size, r, e)
			}
			if may {
				same(t, r, &plain{handle: h, size: size})
			}
		}
	}
}

// P16.1 to P16.3: a ring keeps entries of just its handle, be that as long as it may, and one that is no handle of layer 1.
func TestHandles(t *testing.T) {
	all := []string{"m", "M", "m ", "", "é", "\xff", "mm", strings.Repeat("z", 15), strings.Repeat("z", 16), strings.Repeat("z", 17)}
	for _, h := range all {
		if h == "" || len(h) > 16 {
			continue
		}
		r, p := fresh(t, h, 2), &plain{handle: h, size: 2}
		for i, other := range all {
			bothPut(t, r, p, 2*i, some(other, true, 1+i, 1))
			bothPut(t, r, p, 2*i+1, some(other, false, 1+i, 2+i))
			same(t, r, p)
		}
		if len(p.all) != 2 {
			t.Fatalf("%q: %v", h, p.all)
		}
	}
}

// P16.1: one ring is nothing to another one, even of the same handle.
func TestRingsStandAlone(t *testing.T) {
	r, p := both(t, 2, 0)
	s, q := both(t, 2, 0)
	bothPut(t, r, p, 3, there(1, 1))
	same(t, s, q)
	bothPut(t, s, q, 1, there(5, 5))
	bothPut(t, s, q, 2, deleted(6, 5))
	bothPut(t, s, q, 4, there(7, 6))
	same(t, r, p)
	same(t, s, q)
}

// P16.1 to P16.3: the example of the chapter.
func TestExample(t *testing.T) {
	r := fresh(t, "m", 2)
	first, second, third := there(1, 1), there(1, 2), there(2, 2)
	put(t, r, 1, first, api.OK)
	put(t, r, 4, second, api.OK)
	put(t, r, 6, third, api.OK)
	at(t, r, 3, api.Entry{}, api.ErrGone)
	at(t, r, 4, second, api.OK)
	at(t, r, 5, second, api.OK)
	for _, version := range []int{6, 7, 100, most, most + 1, math.MaxInt} {
		at(t, r, version, third, api.OK)
	}
	if r.Many() != 2 || r.Dropped() != 1 || !slices.Equal(r.Versions(), []int{4, 6}) {
		t.Errorf("%d %d %v", r.Many(), r.Dropped(), r.Versions())
	}
	if v, e, is := r.Last(); v != 6 || e != third || !is {
		t.Errorf("%d %v %t", v, e, is)
	}
}

// P16.1 to P16.3, P16.6: rings of all sizes with each number of entries, from none to several times the size.
func TestFilling(t *testing.T) {
	for _, size := range sizes {
		for many := range 4*size + 3 {
			r, p := both(t, size, many)
			same(t, r, p)
			if r.Many() != min(size, many) || r.Dropped() != max(0, many-size) || len(r.Versions()) != min(size, many) {
				t.Fatalf("%d of %d: %d %d %v", many, size, r.Many(), r.Dropped(), r.Versions())
			}
		}
	}
}

// P16.2: below the first version that is kept, at it, between two, at the last one and above it; before something was dropped, and after.
func TestAtAroundVersions(t *testing.T) {
	never, gone := api.Entry{Handle: "m"}, api.Entry{}
	a, b, c, d := there(1, 1), there(1, 2), deleted(2, 2), there(3, 3)
	for _, x := range []struct {
		many int
		want []api.Entry // at 0 to 12
		errs api.Errno   // where it is gone
	}{
		{0, []api.Entry{never, never, never, never, never, never, never, never, never, never, never, never, never}, api.OK},
		{1, []api.Entry{never, never, a, a, a, a, a, a, a, a, a, a, a}, api.OK},
		{2, []api.Entry{never, never, a, a, a, b, b, b, b, b, b, b, b}, api.OK},
		{3, []api.Entry{never, never, a, a, a, b, c, c, c, c, c, c, c}, api.OK},
		{4, []api.Entry{gone, gone, gone, gone, gone, b, c, c, c, c, d, d, d}, api.ErrGone},
	} {
		r := fresh(t, "m", 3)
		for _, p := range []past{{2, a}, {5, b}, {6, c}, {10, d}}[:x.many] {
			put(t, r, p.version, p.e, api.OK)
		}
		for version, want := range x.want {
			if want == gone {
				at(t, r, version, want, x.errs)
			} else {
				at(t, r, version, want, api.OK)
			}
		}
		for _, version := range append(above, most) {
			at(t, r, version, x.want[12], api.OK)
		}
		for _, version := range below {
			at(t, r, version, api.Entry{}, api.ErrArg)
		}
	}
}

// P16.2: that a handle is read as one that never existed ends when the first entry is dropped, not sooner, even if the first version was 0.
func TestNeverOrGone(t *testing.T) {
	for _, size := range sizes {
		for first := range 3 {
			r, p := both(t, size, 0)
			for i := range size + 2 {
				bothPut(t, r, p, first+i, there(1+i, 1))
				e, err := r.At(0)
				switch {
				case i >= size && (e != (api.Entry{}) || err != api.ErrGone),
					i < size && first == 0 && (e != there(1, 1) || err != api.OK),
					i < size && first > 0 && (e != (api.Entry{Handle: "m"}) || err != api.OK):
					t.Fatalf("size %d, first %d, after %d more: %v %d", size, first, i, e, err)
				}
				same(t, r, p)
			}
		}
	}
}

// P16.1, P16.2: the versions 0 and MaxVersions may be added, and nothing after the latter.
func TestEdgesOfVersions(t *testing.T) {
	for _, size := range sizes {
		r, p := both(t, size, 0)
		for i, version := range []int{0, 1, most - 1, most} {
			put(t, r, version, there(1+i, 1+i), api.OK)
			p.put(version, there(1+i, 1+i))
			same(t, r, p)
		}
		for _, version := range slices.Concat(below, above, []int{0, 1, most - 1, most}) {
			put(t, r, version, there(9, 9), api.ErrArg)
			put(t, r, version, deleted(9, 9), api.ErrArg)
			same(t, r, p)
		}
		for _, version := range []int{0, 1, 2, most - 1, most} { // each as the first one, too
			r, p := both(t, size, 0)
			put(t, r, version, there(1, 1), api.OK)
			p.put(version, there(1, 1))
			same(t, r, p)
		}
	}
}

// P16.1: a version that is not above the last one's, or is none, is refused in each state of a ring; the next one is not.
func TestVersionsThatMayNotBe(t *testing.T) {
	for _, size := range sizes {
		for many := range 2*size + 2 {
			r, p := both(t, size, many)
			last, _ := p.last()
			wrong := slices.Concat(below, above)
			for version := range last + 1 {
				wrong = append(wrong, version)
			}
			for _, version := range wrong {
				put(t, r, version, there(100, 100), api.ErrArg)
				same(t, r, p)
			}
			put(t, r, last+1, there(100, 100), api.OK)
			p.put(last+1, there(100, 100))
			same(t, r, p)
		}
	}
}

// full gives objects that have one field besides the Handle.
func full(handle string) []api.Object {
	h := handle
	return []api.Object{
		{Handle: h, Kind: api.KdMds}, {Handle: h, Kind: 255}, {Handle: h, Parent: "c"}, {Handle: h, Type: 1}, {Handle: h, Ref: "r"},
		{Handle: h, Lo: -1}, {Handle: h, Hi: 1}, {Handle: h, Digits: 1}, {Handle: h, On: true}, {Handle: h, Has: true}, {Handle: h, Value: 1},
		{Handle: h, Low: math.MinInt64}, {Handle: h, High: math.MaxInt64}, {Handle: h, Assoc: 1},
	}
}

// wrongObjects gives entries with faults other than that of a stamp or a version.
func wrongObjects(s api.Stamp) []api.Entry {
	var l []api.Entry
	for _, h := range []string{"", "n", "M", "mm", "m ", " m", "m\x00", "l", "mds0", strings.Repeat("m", 17)} {
		l = append(l, some(h, true, s.Desc, s.State), some(h, false, s.Desc, s.State)) // of another handle
		l = append(l, api.Entry{Handle: "m", There: true, O: api.Object{Handle: h}, Stamp: s})
		l = append(l, api.Entry{Handle: h, There: true, O: api.Object{Handle: "m"}, Stamp: s})
	}
	l = append(l, api.Entry{Handle: "m", There: true, Stamp: s}, api.Entry{Handle: "m", O: api.Object{Handle: "m"}, Stamp: s}, api.Entry{Stamp: s})
	for _, o := range slices.Concat(full(""), full("m"), full("n")) {
		l = append(l, api.Entry{Handle: "m", O: o, Stamp: s})
		if o.Handle != "m" {
			l = append(l, api.Entry{Handle: "m", There: true, O: o, Stamp: s})
		}
	}
	return l
}

// P16.1: an entry of another handle, one that is There whose O has another one, and one that is not There whose O is not zero.
func TestObjectsThatMayNotBe(t *testing.T) {
	for _, size := range []int{1, 2, 3, 8} {
		for many := range 2*size + 2 {
			r, p := both(t, size, many)
			last, _ := p.last()
			for _, e := range wrongObjects(api.Stamp{Desc: 100, State: 100}) {
				put(t, r, last+1, e, api.ErrArg)
			}
			same(t, r, p)
			put(t, r, last+1, there(100, 100), api.OK)
		}
	}
}

// P16.1: of an object that is There nothing is asked but its Handle, and it is kept as it is.
func TestObjectsAreKeptAsTheyAre(t *testing.T) {
	objects := append(full("m"), api.Object{Handle: "m"}, api.Object{Handle: "m", Kind: 77, Parent: strings.Repeat("p", 1000), Type: 255, Ref: "\xff", Lo: math.MaxInt64, Hi: math.MinInt64, Digits: 255, On: true, Has: true, Value: math.MinInt64, Low: 5, High: -5, Assoc: 255})
	for _, size := range sizes {
		r, p := both(t, size, 0)
		for i, o := range objects {
			e := api.Entry{Handle: "m", There: true, O: o, Stamp: api.Stamp{Desc: 1, State: 1 + i}}
			put(t, r, i, e, api.OK)
			p.put(i, e)
			same(t, r, p)
		}
	}
}

// edges are numbers of stamps on both sides of every bound, and of those around n.
func edges(n int) []int {
	return []int{n - 2, n - 1, n, n + 1, n + 2, 0, 1, 2, most - 1, most, most + 1, 2 * most, math.MaxInt, -1, -2, -most, math.MinInt}
}

// P16.1: the stamp is valid, and the last one's is Ahead of it: neither equal, nor Behind, nor Beside.
func TestStamps(t *testing.T) {
	for _, size := range []int{1, 2, 8} {
		for _, last := range []api.Stamp{{}, {Desc: 1, State: 1}, {Desc: 1, State: 9}, {Desc: 9, State: 1}, {Desc: 9, State: 9}, {Desc: most, State: 1}, {Desc: 5, State: most}, {Desc: most - 1, State: most - 1}, {Desc: most, State: most}} {
			for _, desc := range edges(last.Desc) {
				for _, state := range edges(last.State) {
					r, p := both(t, size, 0)
					if last != (api.Stamp{}) {
						put(t, r, 3, there(last.Desc, last.State), api.OK)
						p.put(3, there(last.Desc, last.State))
					}
					bothPut(t, r, p, 4, there(desc, state))
					bothPut(t, r, p, 5, deleted(desc, state))
					same(t, r, p)
				}
			}
		}
	}
}

// P16.1: stamps that follow the last one's and such that do not, one by one, in each state of a ring.
func TestStampsInEachState(t *testing.T) {
	for _, size := range sizes {
		for many := 1; many < 2*size+2; many++ {
			r, p := both(t, size, many)
			last, s := p.last()
			for _, x := range [][2]int{{0, 0}, {-1, -1}, {1, 0}, {0, 1}, {s.Desc + 1, 0}, {0, s.State + 1}, {s.Desc, s.State}, {s.Desc - 1, s.State}, {s.Desc, s.State - 1}, {s.Desc - 1, s.State - 1}, {s.Desc + 1, s.State - 1}, {s.Desc - 1, s.State + 1}, {most + 1, s.State}, {s.Desc, most + 1}, {most + 1, most + 1}} {
				put(t, r, last+1, there(x[0], x[1]), api.ErrArg)
				put(t, r, last+1, deleted(x[0], x[1]), api.ErrArg)
			}
			same(t, r, p)
			for _, x := range [][2]int{{s.Desc + 1, s.State}, {s.Desc, s.State + 1}, {s.Desc + 1, s.State + 1}, {most, s.State}, {s.Desc, most}, {most, most}} {
				for _, e := range []api.Entry{there(x[0], x[1]), deleted(x[0], x[1])} {
					c, q := r.Copy(), p.copy()
					put(t, c, last+1, e, api.OK)
					q.put(last+1, e)
					same(t, c, q)
				}
			}
			same(t, r, p)
		}
	}
}

// P16.1: the first stamp need not be 1.1, and an object need not be There at first.
func TestFirstEntry(t *testing.T) {
	for _, x := range [][2]int{{1, 1}, {1, 2}, {7, 1}, {most, 1}, {1, most}, {most, most}} {
		for _, e := range []api.Entry{there(x[0], x[1]), deleted(x[0], x[1])} {
			for _, size := range sizes {
				r, p := both(t, size, 0)
				put(t, r, 7, e, api.OK)
				p.put(7, e)
				same(t, r, p)
			}
		}
	}
}

// P16.1: several faults at once are no better than one.
func TestSeveralFaults(t *testing.T) {
	r, p := both(t, 2, 3)
	for _, version := range []int{-1, 0, 8, most + 1, 9} {
		for _, e := range append(wrongObjects(api.Stamp{Desc: 1}), wrongObjects(api.Stamp{})...) {
			put(t, r, version, e, api.ErrArg)
		}
	}
	put(t, r, 9, api.Entry{}, api.ErrArg)
	same(t, r, p)
}

// P16.1 to P16.3: an object that is created, deleted, and created again.
func TestDeletedAndCreatedAgain(t *testing.T) {
	for _, size := range sizes {
		r, p := both(t, size, 0)
		for i, e := range []api.Entry{there(1, 1), deleted(2, 1), there(3, 2), there(3, 3), deleted(4, 3), there(5, 4)} {
			put(t, r, 10*i, e, api.OK)
			p.put(10*i, e)
			same(t, r, p)
			at(t, r, 10*i, e, api.OK)
			at(t, r, 10*i+9, e, api.OK)
		}
	}
	r := fresh(t, "m", 4)
	put(t, r, 1, there(1, 1), api.OK)
	put(t, r, 3, deleted(2, 1), api.OK)
	put(t, r, 5, there(3, 2), api.OK)
	for version, want := range []api.Entry{{Handle: "m"}, there(1, 1), there(1, 1), {Handle: "m", Stamp: api.Stamp{Desc: 2, State: 1}}, {Handle: "m", Stamp: api.Stamp{Desc: 2, State: 1}}, there(3, 2)} {
		at(t, r, version, want, api.OK)
	}
}

// P16.3: a deleted object's entry is the last one as well as any other.
func TestLastOfADeletedObject(t *testing.T) {
	r := fresh(t, "m", 1)
	if v, e, is := r.Last(); v != 0 || e != (api.Entry{Handle: "m"}) || is {
		t.Errorf("%d %v %t", v, e, is)
	}
	put(t, r, 0, there(1, 1), api.OK)
	if v, e, is := r.Last(); v != 0 || e != there(1, 1) || !is {
		t.Errorf("%d %v %t", v, e, is)
	}
	put(t, r, 4, deleted(2, 1), api.OK)
	if v, e, is := r.Last(); v != 4 || e != deleted(2, 1) || !is {
		t.Errorf("%d %v %t", v, e, is)
	}
}

// P16.3: the list belongs to who asked for it.
func TestVersionsIsANewList(t *testing.T) {
	for _, size := range sizes {
		for many := 1; many < 2*size+2; many++ {
			r, p := both(t, size, many)
			first, second := r.Versions(), r.Versions()
			want := slices.Clone(second)
			for i := range first {
				first[i] = 12345
			}
			_ = append(first[:0], -7, -7, -7, -7, -7, -7, -7, -7, -7)
			if !slices.Equal(second, want) {
				t.Fatalf("%v, not %v", second, want)
			}
			same(t, r, p)
			put(t, r, 12345, there(500, 500), api.OK)
			if !slices.Equal(second, want) {
				t.Fatalf("%v, not %v", second, want)
			}
		}
	}
}

// P16.2, P16.3: calls that only ask change nothing.
func TestAskingChangesNothing(t *testing.T) {
	for many := range 8 {
		r, p := both(t, 3, many)
		for range 3 {
			same(t, r, p)
			r.Copy()
		}
		before := *r
		same(t, r, p)
		if *r != before {
			t.Fatalf("%v, not %v", *r, before)
		}
	}
}

// P16.4: a copy goes on alone, and so does what it was made of.
func TestCopyGoesOnAlone(t *testing.T) {
	for _, size := range sizes {
		for many := range 2*size + 2 {
			for _, more := range []int{1, 2, size, size + 1, 3 * size} {
				r, p := both(t, size, many)
				c := r.Copy()
				if c == nil || c == r {
					t.Fatalf("%p of %p", c, r)
				}
				q := p.copy()
				same(t, c, q)
				for i := range more { // the ring goes on
					bothPut(t, r, p, step(many+i).version, step(many+i).e)
					same(t, c, q)
				}
				same(t, r, p)
				for i := range more { // now the copy, otherwise
					bothPut(t, c, q, 100+i, there(200+i, 200))
					same(t, r, p)
				}
				same(t, c, q)
				if len(p.all) != many+more || len(q.all) != many+more {
					t.Fatalf("%d and %d of %d", len(p.all), len(q.all), many+more)
				}
			}
		}
	}
}

// P16.4: a copy of a copy, of which the one between goes on.
func TestCopyOfACopy(t *testing.T) {
	for many := range 6 {
		r, p := both(t, 2, many)
		c := r.Copy()
		d := c.Copy()
		put(t, c, 100, there(100, 100), api.OK)
		same(t, r, p)
		same(t, d, p)
		bothPut(t, d, p, 99, deleted(99, 99))
		same(t, d, p)
		if r.Dropped()+r.Many() != many || c.Dropped()+c.Many() != many+1 {
			t.Fatalf("%d %d", r.Dropped()+r.Many(), c.Dropped()+c.Many())
		}
	}
}

// unmade gives Rings that New and Copy did not return.
func unmade(t *testing.T) []*Ring {
	r, _ := both(t, 2, 3)
	empty := *fresh(t, "m", 2)
	fromNew, fromCopy := *r, *r.Copy()
	again := fromNew
	return []*Ring{nil, {}, new(Ring), &empty, &fromNew, &fromCopy, &again}
}

// answersNothing holds what such a Ring answers.
func answersNothing(t *testing.T, r *Ring) {
	t.Helper()
	if v, e, is := r.Last(); v != 0 || e != (api.Entry{}) || is {
		t.Fatalf("%d %v %t", v, e, is)
	}
	if r.Many() != 0 || r.Dropped() != 0 || len(r.Versions()) != 0 {
		t.Fatalf("%d %d %v", r.Many(), r.Dropped(), r.Versions())
	}
	for _, version := range slices.Concat(below, above, []int{0, 1, 2, 5, 8, 9, 100, most}) {
		at(t, r, version, api.Entry{}, api.ErrNil)
		put(t, r, version, there(50, 50), api.ErrNil)
		put(t, r, version, some("", false, 50, 50), api.ErrNil)
		put(t, r, version, api.Entry{}, api.ErrNil)
	}
}

// P16.1 to P16.4: nothing is to be had of such Rings, nor of their copies, whatever was called before.
func TestRingsThatNewAndCopyDidNotReturn(t *testing.T) {
	for i, r := range unmade(t) {
		answersNothing(t, r)
		c := r.Copy()
		if (r == nil) != (c == nil) || r != nil && r == c {
			t.Errorf("%d: %p of %p", i, c, r)
		}
		answersNothing(t, c)
		answersNothing(t, r)
	}
}

// P16.4: an assignment is no way to the entries of a ring.
func TestAssignedRingLeavesTheOtherAsItIs(t *testing.T) {
	r, p := both(t, 2, 3)
	s := *r
	s.Put(100, there(100, 100))
	s.Copy().Put(100, there(100, 100))
	same(t, r, p)
	bothPut(t, r, p, 20, there(20, 20))
	same(t, r, p)
}

// equivalent holds P16.5: what is read is what it would be without drops, or gone; but not at the last Size versions that were added, nor above.
func equivalent(t *testing.T, r *Ring, p *plain) {
	t.Helper()
	for _, version := range p.probes() {
		if version < 0 {
			continue
		}
		want, place := p.whole(version)
		e, err := r.At(version)
		if err == api.OK && e == want || err == api.ErrGone && e == (api.Entry{}) && place < len(p.all)-p.size {
			continue
		}
		t.Fatalf("At of %d: %v %d; without drops %v", version, e, err, want)
	}
	for i := max(0, len(p.all)-p.size); i < len(p.all); i++ {
		at(t, r, p.all[i].version, p.all[i].e, api.OK)
	}
}

// P16.5
func TestEquivalence(t *testing.T) {
	for _, size := range sizes {
		r, p := both(t, size, 0)
		big, q := both(t, api.MaxRing, 0) // as long as it drops nothing, a greater ring answers what a smaller one does, where that is not gone
		for i := range 5 * size {
			equivalent(t, r, p)
			for _, version := range q.probes() {
				e, err := r.At(version)
				whole, wholeErr := big.At(version)
				if big.Dropped() == 0 && err != api.ErrGone && (e != whole || err != wholeErr) {
					t.Fatalf("At of %d: %v %d, and %v %d", version, e, err, whole, wholeErr)
				}
			}
			bothPut(t, r, p, step(i).version, step(i).e)
			bothPut(t, big, q, step(i).version, step(i).e)
		}
	}
}

// P16.6: dropped and kept entries are all that were added, none more than Size are kept, and each was the last one once.
func TestBounds(t *testing.T) {
	for _, size := range sizes {
		r, p := both(t, size, 0)
		for i := range 6 * size {
			x := step(i)
			bothPut(t, r, p, x.version, x.e)
			if v, e, is := r.Last(); v != x.version || e != x.e || !is {
				t.Fatalf("Last: %d %v %t, not %v", v, e, is, x)
			}
			put(t, r, x.version, x.e, api.ErrArg)
			put(t, r, x.version+1, some("n", true, 100, 100), api.ErrArg)
			if r.Many()+r.Dropped() != i+1 || r.Many() > size || len(r.Versions()) != r.Many() {
				t.Fatalf("%d of %d: %d %d %v", i+1, size, r.Many(), r.Dropped(), r.Versions())
			}
		}
	}
}

// told is what a ring told of a version once.
type told struct {
	version int
	e       api.Entry
	err     api.Errno
}

// remember gives what the ring tells of all versions up to the last one's; of one without entries nothing has to stay.
func remember(r *Ring) []told {
	var l []told
	last, _, is := r.Last()
	if !is {
		return nil
	}
	for version := range last + 1 {
		e, err := r.At(version)
		l = append(l, told{version, e, err})
	}
	return l
}

// stable holds P16.7: what was told is told again, or gone; and what was gone stays so.
func stable(t *testing.T, r *Ring, l []told) {
	t.Helper()
	for _, x := range l {
		e, err := r.At(x.version)
		if (e != x.e || err != x.err) && (e != api.Entry{} || err != api.ErrGone) {
			t.Fatalf("At of %d: %v %d, and once %v %d", x.version, e, err, x.e, x.err)
		}
	}
}

// P16.7
func TestStability(t *testing.T) {
	for _, size := range sizes {
		r, p := both(t, size, 0)
		var all [][]told
		for i := range 4 * size {
			bothPut(t, r, p, step(i).version, step(i).e)
			all = append(all, remember(r))
			for _, l := range all {
				stable(t, r, l)
			}
			r.Put(step(i).version, there(100, 100)) // refused
			r.Copy().Put(step(i).version+1, there(100, 100))
			stable(t, r, all[i])
			if !slices.Equal(remember(r), all[i]) {
				t.Fatalf("%v, not %v", remember(r), all[i])
			}
		}
	}
}

// moves are entries that may follow one with the stamp s and the version v, and some that may not.
func moves(v int, s api.Stamp) []past {
	return []past{
		{v + 1, there(s.Desc+1, s.State+1)},
		{v + 3, there(s.Desc, s.State+1)},
		{v + 2, deleted(s.Desc+1, s.State)},
		{v, there(s.Desc+1, s.State)},
		{v + 1, there(s.Desc, s.State)},
		{v + 1, there(s.Desc+1, s.State-1)},
		{v + 1, some("n", true, s.Desc+1, s.State+1)},
	}
}

// P16.1 to P16.3, P16.5 to P16.7: all there is to do with small rings, step by step.
func TestAllShortSequences(t *testing.T) {
	for size := 1; size <= 3; size++ {
		var goOn func(r *Ring, p *plain, left int)
		goOn = func(r *Ring, p *plain, left int) {
			same(t, r, p)
			equivalent(t, r, p)
			if left == 0 {
				return
			}
			l := remember(r)
			v, s := p.last()
			for _, x := range moves(v, s) {
				c, q := r.Copy(), p.copy()
				bothPut(t, c, q, x.version, x.e)
				stable(t, c, l)
				goOn(c, q, left-1)
			}
			same(t, r, p)
		}
		r, p := both(t, size, 0)
		goOn(r, p, 5)
	}
}

// P16.1 to P16.7: long ways through rings of all sizes, with thrown entries and copies of which one goes on; the same in each run.
func TestLongSequences(t *testing.T) {
	dice := rand.New(rand.NewPCG(16, 1))
	for _, size := range sizes {
		r, p := both(t, size, 0)
		added := 0
		for range 300 {
			v, s := p.last()
			e := some("m", dice.IntN(3) > 0, s.Desc+dice.IntN(4)-dice.IntN(2), s.State+dice.IntN(4)-dice.IntN(2))
			switch dice.IntN(12) {
			case 0:
				e.Handle = "n"
			case 1:
				e.O.Handle = "n"
			case 2:
				e.There = !e.There
			}
			version := v + dice.IntN(6) - dice.IntN(2)
			l := remember(r)
			if p.may(version, e) {
				added++
			}
			bothPut(t, r, p, version, e)
			stable(t, r, l)
			if dice.IntN(10) == 0 {
				left := r
				r = r.Copy()
				left.Put(v+10, there(s.Desc+10, s.State+10))
			}
			same(t, r, p)
			equivalent(t, r, p)
			if r.Many()+r.Dropped() != added {
				t.Fatalf("%d and %d are not %d", r.Many(), r.Dropped(), added)
			}
		}
		if added < 50 {
			t.Errorf("only %d were added", added)
		}
	}
}

// P16.1, P16.3, P16.6: as many entries as there are versions.
func TestAllVersions(t *testing.T) {
	for _, size := range []int{1, 3, 8} {
		r := fresh(t, "m", size)
		s := api.Stamp{Desc: 1, State: 1}
		for version := range most + 1 {
			if e := r.Put(version, there(s.Desc, s.State)); e != api.OK {
				t.Fatalf("Put of %d: %d", version, e)
			}
			if version%2 == 0 {
				s.Desc++
			} else {
				s.State++
			}
		}
		if r.Many() != size || r.Dropped() != most+1-size || r.Versions()[0] != most+1-size || r.Versions()[size-1] != most {
			t.Errorf("%d %d %v", r.Many(), r.Dropped(), r.Versions())
		}
		at(t, r, most-size, api.Entry{}, api.ErrGone)
		at(t, r, most+1-size, there(1+(most+2-size)/2, 1+(most+1-size)/2), api.OK)
		put(t, r, most+1, there(s.Desc, s.State), api.ErrArg)
	}
}
