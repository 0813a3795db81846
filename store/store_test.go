package store

import (
	"maps"
	"math"
	"math/rand/v2"
	"slices"
	"strconv"
	"strings"
	"testing"

	"bedside/api"
	"bedside/change"
	"bedside/ring"
	"bedside/wf"
)

// most is MaxVersions, maxTicks is MaxTicks.
const (
	most     = 1 << 20
	maxTicks = 1 << 40
)

// strange are strings that are no handles.
var strange = []string{"", "-", ".", ".a", "_", "1", "1a", "A", "aB", "a.", "a..b", "a b", " a", "a ", "a\x00", "\x00", "\x80", "\xff", "a\xff", "\xc3\xa4", "{", "abcdefghijklmnopq", strings.Repeat("z", 1000)}

// config gives a configuration with room for all but these two.
func config(slots, ring int) api.Config {
	return api.Config{Slots: slots, Ring: ring, Queue: 3, Versions: 4096, Lockout: 2}
}

// bed gives a well-formed list with each kind in it, not ordered by handles: two devices d and e, and what is under them.
func bed() []api.Object {
	return []api.Object{
		{Handle: "d", Kind: api.KdMds},
		{Handle: "v", Kind: api.KdVmd, Parent: "d"},
		{Handle: "c", Kind: api.KdChannel, Parent: "v"},
		{Handle: "m", Kind: api.KdMetric, Parent: "c", Lo: -10, Hi: 100, Digits: 1, Has: true, Value: 37},
		{Handle: "s", Kind: api.KdAlertSystem, Parent: "v", On: true},
		{Handle: "l", Kind: api.KdLimit, Parent: "s", Type: 1, Ref: "m", On: true, Low: 1, High: 99},
		{Handle: "k", Kind: api.KdCondition, Parent: "s", Ref: "m", Type: 2},
		{Handle: "g", Kind: api.KdSignal, Parent: "s", Ref: "l"},
		{Handle: "h", Kind: api.KdSignal, Parent: "s", Ref: "k", On: true},
		{Handle: "x", Kind: api.KdContext, Parent: "d", Type: 1, Assoc: api.AsYes},
		{Handle: "y", Kind: api.KdContext, Parent: "d", Type: 1, Assoc: api.AsPre},
		{Handle: "e", Kind: api.KdMds},
		{Handle: "e.x", Kind: api.KdContext, Parent: "e", Type: 1, Assoc: api.AsYes},
	}
}

const beds = 13 // objects of bed

// of gives the object of bed with that handle.
func of(h string) api.Object {
	o, _ := wf.Find(bed(), h)
	return o
}

func with(o api.Object, does func(o *api.Object)) api.Object {
	does(&o)
	return o
}

// bare and only give the object without its state, and its Handle, Kind and state alone.
func bare(o api.Object) api.Object {
	o.On, o.Has, o.Value, o.Low, o.High, o.Assoc = false, false, 0, 0, 0, 0
	return o
}

func only(o api.Object) api.Object {
	o.Parent, o.Type, o.Ref, o.Lo, o.Hi, o.Digits = "", 0, "", 0, 0, 0
	return o
}

func create(o api.Object) api.Change { return api.Change{Kind: api.CgCreate, O: o} }
func desc(o api.Object) api.Change   { return api.Change{Kind: api.CgDesc, O: bare(o)} }
func state(o api.Object) api.Change  { return api.Change{Kind: api.CgState, O: only(o)} }
func gone(h string) api.Change       { return api.Change{Kind: api.CgDelete, O: api.Object{Handle: h}} }

// value gives a change that sets the value of the metric m.
func value(n int64) api.Change {
	return state(with(of("m"), func(o *api.Object) { o.Value = n }))
}

// context gives a context under d that is no one's rival.
func context(h string) api.Object {
	return api.Object{Handle: h, Kind: api.KdContext, Parent: "d"}
}

// past is an entry with its version.
type past struct {
	version int
	e       api.Entry
}

// plain is a store as the chapter says it, with whole lists: all trees that were published, with the stamps of that time, and all entries that were added; none is dropped.
type plain struct {
	cfg       api.Config
	tick      int
	trees     [][]api.Object         // by versions
	stamps    []map[string]api.Stamp // by versions
	entries   map[string][]past      // those of installed changes among them
	installed []api.Change
	local     map[string]int
}

func newPlain(cfg api.Config, l []api.Object) *plain {
	first, _ := change.Apply(l, nil) // by handles
	p := &plain{cfg: cfg, trees: [][]api.Object{first}, entries: map[string][]past{}, local: map[string]int{}}
	stamps := map[string]api.Stamp{}
	for _, o := range first {
		stamps[o.Handle] = api.Stamp{Desc: 1, State: 1}
		p.entries[o.Handle] = []past{{0, api.Entry{Handle: o.Handle, There: true, O: o, Stamp: stamps[o.Handle]}}}
	}
	p.stamps = append(p.stamps, stamps)
	return p
}

func (p *plain) copy() *plain {
	c := *p
	c.trees, c.stamps, c.installed = slices.Clone(p.trees), slices.Clone(p.stamps), slices.Clone(p.installed)
	c.local, c.entries = maps.Clone(p.local), map[string][]past{}
	for h, l := range p.entries {
		c.entries[h] = slices.Clone(l)
	}
	return &c
}

func (p *plain) version() int      { return len(p.trees) - 1 }
func (p *plain) now() []api.Object { return p.trees[p.version()] }

func (p *plain) pass() api.Errno {
	if p.tick == maxTicks {
		return api.ErrFull
	}
	p.tick++
	return api.OK
}

func (p *plain) check(set []api.Change) api.Errno {
	if p.version() == p.cfg.Versions {
		return api.ErrFull
	}
	l, e := change.Apply(p.now(), set)
	if e == api.OK && len(l) > p.cfg.Slots {
		e = api.ErrFull
	}
	if e == api.OK {
		e = wf.Check(l)
	}
	return e
}

func (p *plain) install(c api.Change) api.Errno {
	h := c.O.Handle
	l, e := change.Apply(p.now(), []api.Change{c})
	if e != api.OK || len(p.installed) == 8 || slices.Contains(change.Handles(p.installed), h) {
		return api.ErrArg
	}
	if p.version() == p.cfg.Versions {
		return api.ErrFull
	}
	next := api.Entry{Handle: h, Stamp: p.stamps[p.version()][h]}
	next.O, next.There = wf.Find(l, h)
	if c.Kind != api.CgState {
		next.Stamp.Desc++
	}
	if c.Kind == api.CgCreate || c.Kind == api.CgState {
		next.Stamp.State++
	}
	p.entries[h] = append(p.entries[h], past{p.version() + 1, next})
	p.installed = append(p.installed, c)
	return api.OK
}

func (p *plain) publish(local bool) ([]Told, api.Errno) {
	if len(p.installed) == 0 {
		return nil, api.ErrArg
	}
	if e := p.check(p.installed); e != api.OK {
		return nil, e
	}
	l, _ := change.Apply(p.now(), p.installed)
	stamps := maps.Clone(p.stamps[p.version()])
	var told []Told
	for _, c := range p.installed {
		h := c.O.Handle
		was, _ := wf.Find(p.now(), h)
		if c.Kind == api.CgDelete {
			told = append(told, Told{c, was.Kind})
		} else {
			told = append(told, Told{c, c.O.Kind})
		}
		stamps[h] = p.entries[h][len(p.entries[h])-1].e.Stamp
		if local && (c.Kind == api.CgCreate || c.Kind == api.CgState) {
			p.local[h] = p.tick
		}
	}
	p.trees, p.stamps, p.installed = append(p.trees, l), append(p.stamps, stamps), nil
	return told, api.OK
}

// dropped is how many of the handle's entries are not kept any more.
func (p *plain) dropped(h string) int {
	return max(0, len(p.entries[h])-p.cfg.Ring)
}

func (p *plain) read(h string, version int) (api.Entry, api.Errno) {
	if slices.Contains(strange, h) {
		return api.Entry{}, api.ErrHandle
	}
	if version < 0 || version > p.version() {
		return api.Entry{}, api.ErrArg
	}
	e, err := api.Entry{Handle: h}, api.OK
	if p.dropped(h) > 0 {
		e, err = api.Entry{}, api.ErrGone
	}
	for _, x := range p.entries[h][p.dropped(h):] {
		if x.version <= version {
			e, err = x.e, api.OK
		}
	}
	return e, err
}

func (p *plain) last(h string) int {
	last := -1
	for _, x := range p.entries[h] {
		if x.version <= p.version() {
			last = x.version
		}
	}
	return last
}

// handles gives those that a store of p may know, and some that it does not.
func (p *plain) handles() []string {
	return append(slices.Sorted(maps.Keys(p.entries)), "zz", "a.", "", "A")
}

// versions gives all versions and some that do not exist: the last ones are all, and with a long past only some of the others.
func (p *plain) versions() []int {
	l := []int{-1, -2, math.MinInt, p.version() + 1, p.version() + 2, most, math.MaxInt}
	for v := range p.version() + 1 {
		if v < 2 || v > p.version()-24 || v%97 == 0 {
			l = append(l, v)
		}
	}
	return l
}

// same holds all that the store tells against p.
func same(t *testing.T, s *Store, p *plain) {
	t.Helper()
	if s.Config() != p.cfg || s.Version() != p.version() || s.Tick() != p.tick {
		t.Fatalf("%v, version %d, tick %d; not %v, %d, %d", s.Config(), s.Version(), s.Tick(), p.cfg, p.version(), p.tick)
	}
	if l := s.All(); !slices.Equal(l, p.now()) {
		t.Fatalf("All: %v, not %v", l, p.now())
	}
	if l := s.Installed(); !slices.Equal(l, p.installed) {
		t.Fatalf("Installed: %v, not %v", l, p.installed)
	}
	versions := p.versions()
	for _, h := range p.handles() {
		if last := s.Last(h); last != p.last(h) {
			t.Fatalf("Last of %q: %d, not %d", h, last, p.last(h))
		}
		tick, is := p.local[h]
		if n, got := s.Local(h); n != tick || got != is {
			t.Fatalf("Local of %q: %d %t, not %d %t", h, n, got, tick, is)
		}
		for _, v := range versions {
			want, wantErr := p.read(h, v)
			if e, err := s.Read(h, v); e != want || err != wantErr {
				t.Fatalf("Read of %q at %d: %v %d, not %v %d", h, v, e, err, want, wantErr)
			}
		}
	}
}

// whole holds P17.7 and P17.9: what is read at a version is of the tree of that version, with the stamps of that time, or gone, but not at the store's own version; and the tree is well-formed.
func whole(t *testing.T, s *Store, p *plain) {
	t.Helper()
	for v, l := range p.trees {
		for h := range p.entries {
			o, there := wf.Find(l, h)
			want := api.Entry{Handle: h, There: there, O: o, Stamp: p.stamps[v][h]}
			e, err := s.Read(h, v)
			if err == api.ErrGone && e == (api.Entry{}) && v < p.version() {
				continue
			}
			if e != want || err != api.OK {
				t.Fatalf("Read of %q at %d: %v %d, not %v", h, v, e, err, want)
			}
		}
	}
	if l := s.All(); !wf.Well(l) || len(l) > s.Config().Slots {
		t.Fatalf("not well-formed: %v", l)
	}
}

// fresh gives a new store and the same as a plain one.
func fresh(t *testing.T, cfg api.Config, l []api.Object) (*Store, *plain) {
	t.Helper()
	s, e := New(cfg, l)
	if s == nil || e != api.OK {
		t.Fatalf("New of %v, %v: %v %d", cfg, l, s, e)
	}
	p := newPlain(cfg, l)
	same(t, s, p)
	return s, p
}

// bothInstall and bothPublish do it in both, which are to answer the same; they give the answer.
func bothInstall(t *testing.T, s *Store, p *plain, c api.Change) api.Errno {
	t.Helper()
	want := p.install(c)
	if e := s.Install(c); e != want {
		t.Fatalf("Install of %v: %d, not %d", c, e, want)
	}
	return want
}

func bothPublish(t *testing.T, s *Store, p *plain, local bool) api.Errno {
	t.Helper()
	want, wantErr := p.publish(local)
	if told, e := s.Publish(local); !slices.Equal(told, want) || e != wantErr {
		t.Fatalf("Publish: %v %d, not %v %d", told, e, want, wantErr)
	}
	return wantErr
}

// commit installs the changes and publishes them.
func commit(t *testing.T, s *Store, p *plain, local bool, set ...api.Change) {
	t.Helper()
	if e := s.Check(set); e != api.OK || p.check(set) != api.OK {
		t.Fatalf("Check of %v: %d, not %d", set, e, p.check(set))
	}
	for _, c := range set {
		if e := bothInstall(t, s, p, c); e != api.OK {
			t.Fatalf("Install of %v: %d", c, e)
		}
	}
	if e := bothPublish(t, s, p, local); e != api.OK {
		t.Fatalf("Publish of %v: %d", set, e)
	}
}

// read holds one read.
func read(t *testing.T, s *Store, h string, version int, want api.Entry, wantErr api.Errno) {
	t.Helper()
	if e, err := s.Read(h, version); e != want || err != wantErr {
		t.Fatalf("Read of %q at %d: %v %d, not %v %d", h, version, e, err, want, wantErr)
	}
}

func there(o api.Object, desc, state int) api.Entry {
	return api.Entry{Handle: o.Handle, There: true, O: o, Stamp: api.Stamp{Desc: desc, State: state}}
}

func absent(h string, desc, state int) api.Entry {
	return api.Entry{Handle: h, Stamp: api.Stamp{Desc: desc, State: state}}
}

// ranges are those of the fields of a configuration.
func ranges() [5][2]int {
	return [...][2]int{{1, 64}, {2, 8}, {1, 16}, {1, 4096}, {0, maxTicks}}
}

func configOf(n [5]int) api.Config {
	return api.Config{Slots: n[0], Ring: n[1], Queue: n[2], Versions: n[3], Lockout: n[4]}
}

// P17.1: each field of a configuration alone, within its range and beyond it.
func TestConfigFields(t *testing.T) {
	for i, r := range ranges() {
		for _, n := range []int{r[0], r[0] + 1, r[0] + 3, (r[0] + r[1]) / 2, r[1] - 1, r[1], r[0] - 1, r[0] - 2, r[1] + 1, r[1] + 2, 2*r[1] + 1, -r[1], math.MinInt, math.MinInt32, math.MaxInt, 1 << 41, -1 - 1<<40} {
			fields := [5]int{5, 3, 4, 50, 6}
			fields[i] = n
			s, e := New(configOf(fields), []api.Object{of("d")})
			if may := r[0] <= n && n <= r[1]; may && (s == nil || e != api.OK) || !may && (s != nil || e != api.ErrArg) {
				t.Errorf("field %d: %d: %v %d", i, n, s, e)
			}
		}
	}
}

// P17.1: all fields at their edges, together with objects of all sorts: the configuration is asked first.
func TestConfigEdges(t *testing.T) {
	for k := range 1 << 10 {
		var fields [5]int
		may := true
		for i, r := range ranges() {
			at := k >> (2 * i) & 3
			fields[i] = [...]int{r[0] - 1, r[0], r[1], r[1] + 1}[at]
			may = may && (at == 1 || at == 2)
		}
		cfg := configOf(fields)
		for _, l := range [][]api.Object{nil, {of("d")}, {of("v")}, bed(), {{}, {}}} {
			want := api.OK
			switch {
			case !may:
				want = api.ErrArg
			case len(l) > cfg.Slots:
				want = api.ErrFull
			default:
				want = wf.Check(l)
			}
			s, e := New(cfg, l)
			if e != want || (s != nil) != (want == api.OK) {
				t.Fatalf("New of %v, %v: %v %d, not %d", cfg, l, s, e, want)
			}
			if want == api.OK {
				same(t, s, newPlain(cfg, l))
			}
		}
	}
	if _, e := New(api.Config{}, nil); e != api.ErrArg {
		t.Errorf("no configuration: %d", e)
	}
}

// instead gives bed with another object in place of the one of that handle.
func instead(h string, does func(o *api.Object)) []api.Object {
	l := bed()
	for i := range l {
		if l[i].Handle == h {
			does(&l[i])
		}
	}
	return l
}

// broken are lists that are not well-formed, each by one rule.
func broken() map[api.Errno][]api.Object {
	return map[api.Errno][]api.Object{
		api.ErrHandle: instead("y", func(o *api.Object) { o.Handle = "Y" }),
		api.ErrKind:   instead("y", func(o *api.Object) { o.Kind = 10 }),
		api.ErrRange:  instead("m", func(o *api.Object) { o.Value = 101 }),
		api.ErrTwice:  instead("y", func(o *api.Object) { o.Handle = "x" }),
		api.ErrParent: instead("y", func(o *api.Object) { o.Parent = "v" }),
		api.ErrMany:   instead("y", func(o *api.Object) { *o = api.Object{Handle: "y", Kind: api.KdAlertSystem, Parent: "v"} }),
		api.ErrRef:    instead("k", func(o *api.Object) { o.Ref = "l" }),
		api.ErrLimit:  instead("l", func(o *api.Object) { o.High = 101 }),
		api.ErrAssoc:  instead("y", func(o *api.Object) { o.Assoc = api.AsYes }),
	}
}

// P17.1: the error of the objects, but ErrFull before it if they are too many.
func TestNewErrors(t *testing.T) {
	for want, l := range broken() {
		for slots := 1; slots <= 64; slots++ {
			e := want
			if slots < beds {
				e = api.ErrFull
			}
			if s, got := New(config(slots, 2), l); s != nil || got != e {
				t.Errorf("%d objects, %d slots: %v %d, not %d", len(l), slots, s, got, e)
			}
		}
	}
	for slots := 1; slots <= 64; slots++ {
		s, e := New(config(slots, 2), bed())
		if (s != nil) != (slots >= beds) || slots < beds && e != api.ErrFull || slots >= beds && e != api.OK {
			t.Errorf("%d slots: %v %d", slots, s, e)
		}
	}
}

// P17.1, P17.2: without objects, with one, with just Slots, with MaxSlots; in any order, All is by handles.
func TestNewSizes(t *testing.T) {
	for _, n := range []int{0, 1, 2, 16, 63, 64} {
		var l []api.Object
		for i := range n { // 4 devices of up to 2 parts of up to 7 channels each
			d, v := "d"+strconv.Itoa(i%4), "v"+strconv.Itoa(i%8)
			switch {
			case i < 4:
				l = append(l, api.Object{Handle: d, Kind: api.KdMds})
			case i < 12:
				l = append(l, api.Object{Handle: v, Kind: api.KdVmd, Parent: d})
			default:
				l = append(l, api.Object{Handle: "c" + strconv.Itoa(100-i), Kind: api.KdChannel, Parent: v})
			}
		}
		for _, slots := range []int{n, n + 1, 64} {
			if slots < 1 || slots > 64 {
				continue
			}
			s, p := fresh(t, config(slots, 2), l)
			whole(t, s, p)
			if len(s.All()) != n || n == 0 && s.All() != nil {
				t.Fatalf("%v", s.All())
			}
			slices.Reverse(l)
			same(t, s, p)
		}
	}
}

// P17.1 to P17.5: the example of the chapter.
func TestExample(t *testing.T) {
	a, b := api.Object{Handle: "a", Kind: api.KdMds}, api.Object{Handle: "b", Kind: api.KdContext, Parent: "a", Assoc: api.AsPre}
	s, p := fresh(t, config(2, 4), []api.Object{a})
	read(t, s, "a", 0, there(a, 1, 1), api.OK)
	if e := bothInstall(t, s, p, create(b)); e != api.OK {
		t.Fatalf("%d", e)
	}
	read(t, s, "b", 0, absent("b", 0, 0), api.OK)
	read(t, s, "b", 1, api.Entry{}, api.ErrArg)
	bothPublish(t, s, p, false)
	read(t, s, "b", 1, there(b, 1, 1), api.OK)
	read(t, s, "b", 0, absent("b", 0, 0), api.OK)
	commit(t, s, p, false, gone("b"))
	read(t, s, "b", 2, absent("b", 2, 1), api.OK)
	read(t, s, "b", 1, there(b, 1, 1), api.OK)
	read(t, s, "a", 2, there(a, 1, 1), api.OK)
	same(t, s, p)
}

// P17.2: ticks pass one by one up to MaxTicks, and touch nothing else.
func TestPass(t *testing.T) {
	for _, from := range []int{0, 1000, maxTicks - 3} {
		s, p := fresh(t, config(beds, 2), bed())
		s.tick, p.tick = from, from // no one can wait for so many
		for range 5 {
			want := p.pass()
			if e := s.Pass(); e != want {
				t.Fatalf("after %d: %d, not %d", p.tick, e, want)
			}
			same(t, s, p)
			if c := s.Copy(); c.Tick() != p.tick || c.Pass() != p.copy().pass() || s.Tick() != p.tick {
				t.Fatalf("copy after %d: %d", p.tick, c.Tick())
			}
		}
		commit(t, s, p, true, value(1))
		if tick, is := s.Local("m"); tick != p.tick || !is {
			t.Fatalf("%d %t at %d", tick, is, p.tick)
		}
		same(t, s, p)
	}
	s, _ := fresh(t, config(1, 2), nil)
	s.tick = maxTicks
	if s.Pass() != api.ErrFull || s.Pass() != api.ErrFull || s.Tick() != maxTicks {
		t.Errorf("%d", s.Tick())
	}
}

// P17.3: a string that is no handle is told before a version that does not exist, whatever the store has.
func TestReadErrors(t *testing.T) {
	s, p := fresh(t, config(beds, 2), bed())
	for range 4 {
		for _, v := range []int{-1, -2, math.MinInt, math.MinInt32, s.Version() + 1, s.Version() + 2, 4096, most, math.MaxInt} {
			for _, h := range strange {
				read(t, s, h, v, api.Entry{}, api.ErrHandle)
			}
			for _, h := range []string{"d", "m", "zz", "abcdefghijklmnop", "a.b_c-0"} {
				read(t, s, h, v, api.Entry{}, api.ErrArg)
			}
		}
		for v := range s.Version() + 1 {
			for _, h := range strange {
				read(t, s, h, v, api.Entry{}, api.ErrHandle)
			}
			for _, h := range []string{"zz", "abcdefghijklmnop", "a.b_c-0"} {
				read(t, s, h, v, absent(h, 0, 0), api.OK)
			}
		}
		for _, h := range append(strange, "zz", "d.d") {
			if n, is := s.Local(h); s.Last(h) != -1 || n != 0 || is {
				t.Fatalf("%q: %d, %d %t", h, s.Last(h), n, is)
			}
		}
		commit(t, s, p, true, value(int64(s.Version())))
	}
}

// P17.3, P17.4: what is installed for the next version is not read, not even at that version, nor told by Last.
func TestNextVersionIsNotThere(t *testing.T) {
	s, p := fresh(t, config(beds+1, 2), bed())
	for _, c := range []api.Change{value(1), create(context("n")), gone("y")} {
		bothInstall(t, s, p, c)
		read(t, s, c.O.Handle, 1, api.Entry{}, api.ErrArg)
		same(t, s, p)
	}
	if s.Last("m") != 0 || s.Last("n") != -1 || s.Last("y") != 0 {
		t.Errorf("%d %d %d", s.Last("m"), s.Last("n"), s.Last("y"))
	}
	bothPublish(t, s, p, false)
	if s.Last("m") != 1 || s.Last("n") != 1 || s.Last("y") != 1 || s.Last("x") != 0 {
		t.Errorf("%d %d %d", s.Last("m"), s.Last("n"), s.Last("y"))
	}
}

// P17.3, P17.5: a handle that never existed, is created, set, deleted, and created again, with rings of all sizes.
func TestComingAndGoing(t *testing.T) {
	for size := 2; size <= 8; size++ {
		s, p := fresh(t, config(beds+1, size), bed())
		n := context("n")
		set := with(n, func(o *api.Object) { o.Assoc = api.AsNo })
		typed := with(set, func(o *api.Object) { o.Type = 3 })
		again := with(n, func(o *api.Object) { o.Parent, o.Assoc = "e", api.AsPre })
		entries := []api.Entry{absent("n", 0, 0), there(n, 1, 1), there(set, 1, 2), there(typed, 2, 2), absent("n", 3, 2), there(again, 4, 3), absent("n", 5, 3), there(n, 6, 4)}
		for i, c := range []api.Change{create(n), state(set), desc(typed), gone("n"), create(again), gone("n"), create(n)} {
			commit(t, s, p, false, c)
			for v := range i + 2 {
				if v < i+2-size && i+1 > size {
					read(t, s, "n", v, api.Entry{}, api.ErrGone)
				} else {
					read(t, s, "n", v, entries[v], api.OK)
				}
			}
			if s.Last("n") != i+1 {
				t.Fatalf("Last: %d, not %d", s.Last("n"), i+1)
			}
			same(t, s, p)
			whole(t, s, p)
		}
	}
}

// P17.3: of each handle the last Ring entries are kept, whatever becomes of the others, before and after the first one is dropped.
func TestRings(t *testing.T) {
	for size := 2; size <= 8; size++ {
		s, p := fresh(t, config(beds, size), bed())
		for i := range 3 * size {
			set := []api.Change{value(int64(i))}
			if i%2 == 0 {
				set = append(set, state(with(of("x"), func(o *api.Object) { o.Assoc = uint8(i / 2 % 4) })))
			}
			commit(t, s, p, false, set...)
			same(t, s, p)
			whole(t, s, p)
			_, e := s.Read("m", 0)
			if (e == api.ErrGone) != (i+2 > size) {
				t.Fatalf("%d entries, %d kept: %d", i+2, size, e)
			}
			read(t, s, "d", 0, there(of("d"), 1, 1), api.OK)
		}
	}
}

// P17.4: an entry that the ring drops for an installed one is gone at once; the one of the store's version is not.
func TestOlderEntryIsGoneAtOnce(t *testing.T) {
	s, p := fresh(t, config(beds, 2), bed())
	commit(t, s, p, false, value(1))
	read(t, s, "m", 0, there(of("m"), 1, 1), api.OK)
	bothInstall(t, s, p, value(2))
	read(t, s, "m", 0, api.Entry{}, api.ErrGone)
	read(t, s, "m", 1, there(with(of("m"), func(o *api.Object) { o.Value = 1 }), 1, 2), api.OK)
	bothInstall(t, s, p, gone("y"))
	read(t, s, "y", 0, there(of("y"), 1, 1), api.OK)
	same(t, s, p)
	bothPublish(t, s, p, false)
	read(t, s, "m", 1, there(with(of("m"), func(o *api.Object) { o.Value = 1 }), 1, 2), api.OK)
	read(t, s, "m", 0, api.Entry{}, api.ErrGone)
	same(t, s, p)
}

// orders gives sets that have some of three faults: a change that cannot be applied, an object too much for a full store, a tree that is not well-formed.
func orders() map[[3]bool][]api.Change {
	l := map[[3]bool][]api.Change{}
	for k := range 8 {
		faults := [3]bool{k&1 != 0, k&2 != 0, k&4 != 0}
		set := []api.Change{state(of("k"))}
		if faults[2] {
			set = append(set, value(101))
		}
		if faults[1] {
			set = append(set, create(context("n")))
		}
		if faults[0] {
			set = append(set, gone("zz"))
		}
		l[faults] = set
	}
	return l
}

// P17.4, P17.5: the order of a check: the version, the error of applying, Slots, the tree.
func TestOrderOfACheck(t *testing.T) {
	for faults, set := range orders() {
		want := api.OK
		switch {
		case faults[0]:
			want = api.ErrNone
		case faults[1]:
			want = api.ErrFull
		case faults[2]:
			want = api.ErrRange
		}
		cfg := config(beds, 2)
		cfg.Versions = 1
		s, p := fresh(t, cfg, bed())
		for range 2 {
			if e := s.Check(set); e != want || p.check(set) != want {
				t.Fatalf("%v: %d, not %d", faults, e, want)
			}
			slices.Reverse(set)
		}
		same(t, s, p)
		if !faults[0] {
			for _, c := range set {
				bothInstall(t, s, p, c)
			}
			if e := bothPublish(t, s, p, true); e != want {
				t.Fatalf("%v: published with %d, not %d", faults, e, want)
			}
			same(t, s, p)
		}
		s, p = fresh(t, cfg, bed())
		commit(t, s, p, false, state(of("g")))
		if e := s.Check(set); e != api.ErrFull {
			t.Fatalf("%v at the last version: %d", faults, e)
		}
		same(t, s, p)
	}
}

// wrongChanges are such as no tree of bed's objects can be given.
func wrongChanges() []api.Change {
	m, x := of("m"), of("x")
	l := []api.Change{
		create(with(x, func(o *api.Object) { o.Handle = "n"; o.On = true })),
		create(with(m, func(o *api.Object) { o.Handle = "n"; o.Value = 101 })),
		create(with(x, func(o *api.Object) { o.Handle = "n"; o.Parent = "" })),
		create(api.Object{Handle: "n"}),
		create(m), create(of("d")), create(with(x, func(o *api.Object) { o.Kind, o.Type, o.Assoc = api.KdVmd, 0, 0 })),
		{Kind: api.CgDesc, O: m}, {Kind: api.CgState, O: m}, {Kind: api.CgDelete, O: m}, {Kind: api.CgDelete, O: api.Object{Handle: "m", Kind: api.KdMetric}},
		{Kind: api.CgState, O: api.Object{Handle: "m"}}, {Kind: api.CgDesc, O: api.Object{Handle: "m"}},
		desc(with(m, func(o *api.Object) { o.Digits = 7 })),
		desc(with(m, func(o *api.Object) { o.Lo = 101 })),
		desc(with(m, func(o *api.Object) { o.Parent = "v" })),
		desc(with(m, func(o *api.Object) { *o = api.Object{Handle: "m", Kind: api.KdChannel, Parent: "c"} })),
		desc(with(m, func(o *api.Object) { o.Handle = "zz" })),
		state(with(m, func(o *api.Object) { o.Value = 1_000_000_000_000_001 })),
		state(with(m, func(o *api.Object) { o.Has = false })),
		state(with(of("l"), func(o *api.Object) { o.Low = 100 })),
		state(api.Object{Handle: "m", Kind: api.KdContext, Assoc: 1}),
		state(with(x, func(o *api.Object) { o.Assoc = 4 })),
		state(with(m, func(o *api.Object) { o.Handle = "zz" })),
		gone("zz"), gone(""),
		{},
	}
	for _, kind := range []uint8{0, 5, 6, 7, 8, 16, 127, 128, 255} {
		l = append(l, api.Change{Kind: kind, O: context("n")}, api.Change{Kind: kind, O: m}, api.Change{Kind: kind, O: api.Object{Handle: "m"}}, api.Change{Kind: kind})
	}
	for _, h := range strange {
		l = append(l, gone(h), create(context(h)), state(with(m, func(o *api.Object) { o.Handle = h })), desc(with(m, func(o *api.Object) { o.Handle = h })))
	}
	return l
}

// refusesWrong holds that the store takes no wrong change, and stays as it was.
func refusesWrong(t *testing.T, s *Store, p *plain) {
	t.Helper()
	for _, c := range wrongChanges() {
		if e := s.Install(c); e != api.ErrArg {
			t.Fatalf("Install of %v: %d, not ErrArg", c, e)
		}
		if e := s.Check([]api.Change{c}); e != p.check([]api.Change{c}) || e == api.OK {
			t.Fatalf("Check of %v: %d", c, e)
		}
	}
	same(t, s, p)
}

// P17.4: a change that is not valid, or cannot be applied by itself, is ErrArg in each state of a store, also where there is no room for any; it leaves all as it was.
func TestWrongChanges(t *testing.T) {
	cfg := config(beds, 2)
	cfg.Versions = 2
	s, p := fresh(t, cfg, bed())
	for range 2 {
		refusesWrong(t, s, p)
		for _, h := range []string{"s", "l", "k", "g", "h", "x", "y", "e.x"} {
			bothInstall(t, s, p, state(of(h)))
			refusesWrong(t, s, p)
		}
		bothPublish(t, s, p, false)
	}
	if s.Version() != 2 {
		t.Fatalf("%d", s.Version())
	}
	refusesWrong(t, s, p)
}

// P17.4: what is permitted for a change by itself: that the tree would not be well-formed does not matter, nor that there is no slot.
func TestInstallDoesNotAskTheTree(t *testing.T) {
	for _, c := range []api.Change{
		value(101), gone("d"), gone("c"), gone("m"), gone("l"), create(context("n")),
		create(api.Object{Handle: "n", Kind: api.KdVmd, Parent: "nowhere"}), create(api.Object{Handle: "n", Kind: api.KdVmd, Parent: "m"}),
		create(api.Object{Handle: "n", Kind: api.KdCondition, Parent: "s", Ref: "nothing"}),
		state(with(of("y"), func(o *api.Object) { o.Assoc = api.AsYes })),
		state(with(of("l"), func(o *api.Object) { o.High = 101 })),
		desc(with(of("m"), func(o *api.Object) { o.Hi = 0 })),
		desc(with(of("k"), func(o *api.Object) { o.Ref = "d" })),
	} {
		s, p := fresh(t, config(beds, 2), bed())
		if e := bothInstall(t, s, p, c); e != api.OK {
			t.Fatalf("Install of %v: %d", c, e)
		}
		same(t, s, p)
		want := p.check([]api.Change{c})
		if e := bothPublish(t, s, p, true); e != want || e == api.OK {
			t.Fatalf("Publish of %v: %d, not %d", c, e, want)
		}
		same(t, s, p)
	}
}

// P17.4: a second change of a handle is ErrArg, whatever its kind, until the first one is published.
func TestOneChangeAHandle(t *testing.T) {
	m := of("m")
	all := []api.Change{value(1), desc(m), gone("m")}
	for _, first := range all {
		s, p := fresh(t, config(beds, 2), bed())
		bothInstall(t, s, p, first)
		for _, c := range append(all, create(m)) {
			if e := bothInstall(t, s, p, c); e != api.ErrArg {
				t.Fatalf("%v after %v: %d", c, first, e)
			}
		}
		same(t, s, p)
		if first.Kind == api.CgDelete {
			continue
		}
		bothPublish(t, s, p, false)
		if e := bothInstall(t, s, p, value(2)); e != api.OK {
			t.Fatalf("after %v: %d", first, e)
		}
	}
	s, p := fresh(t, config(beds+1, 2), bed())
	bothInstall(t, s, p, create(context("n")))
	for _, c := range []api.Change{create(context("n")), gone("n"), state(context("n")), desc(context("n"))} {
		if e := bothInstall(t, s, p, c); e != api.ErrArg {
			t.Fatalf("%v: %d", c, e)
		}
	}
	same(t, s, p)
}

// P17.4: MaxChanges are installed, one more is not; when they are published there is room again.
func TestMaxChanges(t *testing.T) {
	s, p := fresh(t, config(beds, 3), bed())
	stated := []string{"m", "s", "l", "k", "g", "h", "x", "y"}
	for range 3 {
		for _, h := range stated {
			if e := bothInstall(t, s, p, state(of(h))); e != api.OK {
				t.Fatalf("%q: %d", h, e)
			}
			same(t, s, p)
		}
		for _, c := range []api.Change{state(of("e.x")), desc(of("e.x")), gone("e.x"), create(context("n"))} {
			if e := bothInstall(t, s, p, c); e != api.ErrArg {
				t.Fatalf("a ninth one: %d", e)
			}
		}
		if l := s.Installed(); len(l) != 8 || !slices.Equal(l, p.installed) {
			t.Fatalf("%v", l)
		}
		if e := bothPublish(t, s, p, true); e != api.OK {
			t.Fatalf("%d", e)
		}
		same(t, s, p)
	}
}

// P17.4, P17.5: at the version Versions nothing can be installed, for the first and for the greatest number of versions, and what was stays.
func TestLastVersion(t *testing.T) {
	for _, versions := range []int{1, 2, 5} {
		cfg := config(beds+1, 2)
		cfg.Versions = versions
		s, p := fresh(t, cfg, bed())
		for i := range versions {
			commit(t, s, p, true, value(int64(i)))
		}
		for _, c := range []api.Change{value(50), create(context("n")), gone("y"), desc(of("m"))} {
			if e := bothInstall(t, s, p, c); e != api.ErrFull {
				t.Fatalf("%v: %d", c, e)
			}
			if e := s.Check([]api.Change{c}); e != api.ErrFull {
				t.Fatalf("%v: %d", c, e)
			}
		}
		if e := s.Check(nil); e != api.ErrFull {
			t.Fatalf("%d", e)
		}
		if e := bothPublish(t, s, p, true); e != api.ErrArg {
			t.Fatalf("%d", e)
		}
		if e := s.Pass(); e != api.OK || p.pass() != api.OK {
			t.Fatalf("%d", e)
		}
		same(t, s, p)
		whole(t, s, p)
	}
}

// P17.2 to P17.5: as many versions as there can be.
func TestAllVersions(t *testing.T) {
	for _, size := range []int{2, 8} {
		s, p := fresh(t, config(beds, size), bed())
		for i := range 4096 {
			commit(t, s, p, i%3 == 0, value(int64(i%100)))
			if s.Version() != i+1 || s.Last("m") != i+1 {
				t.Fatalf("%d %d, not %d", s.Version(), s.Last("m"), i+1)
			}
			if i%500 == 0 {
				same(t, s, p)
			}
		}
		same(t, s, p)
		read(t, s, "m", 4096, there(with(of("m"), func(o *api.Object) { o.Value = 95 }), 1, 4097), api.OK)
		read(t, s, "m", 4097-size, there(with(of("m"), func(o *api.Object) { o.Value = int64((4096 - size) % 100) }), 1, 4098-size), api.OK)
		read(t, s, "m", 4096-size, api.Entry{}, api.ErrGone)
		read(t, s, "d", 0, there(of("d"), 1, 1), api.OK)
		if e := bothInstall(t, s, p, value(1)); e != api.ErrFull {
			t.Errorf("%d", e)
		}
	}
}

// P17.4: a stamp that would be above MaxVersions is ErrFull, and nothing is installed. A store has too few versions for that, so its ring is exchanged.
func TestLastStamp(t *testing.T) {
	for _, x := range []struct {
		stamp api.Stamp
		c     api.Change
		e     api.Errno
	}{
		{api.Stamp{Desc: most, State: most}, value(1), api.ErrFull},
		{api.Stamp{Desc: most, State: most}, desc(of("m")), api.ErrFull},
		{api.Stamp{Desc: most, State: most}, gone("m"), api.ErrFull},
		{api.Stamp{Desc: 1, State: most}, value(1), api.ErrFull},
		{api.Stamp{Desc: most, State: 1}, gone("m"), api.ErrFull},
		{api.Stamp{Desc: most, State: 1}, value(1), api.OK},
		{api.Stamp{Desc: 1, State: most}, desc(of("m")), api.OK},
		{api.Stamp{Desc: most - 1, State: most - 1}, value(1), api.OK},
		{api.Stamp{Desc: most - 1, State: most}, desc(of("m")), api.OK},
		{api.Stamp{Desc: most - 1, State: most}, gone("m"), api.OK},
		{api.Stamp{Desc: most, State: most}, create(of("m")), api.ErrArg},
		{api.Stamp{Desc: most, State: most}, value(1_000_000_000_000_001), api.ErrArg},
	} {
		s, p := fresh(t, config(beds, 2), bed())
		r, _ := ring.New("m", 2)
		r.Put(0, there(of("m"), x.stamp.Desc, x.stamp.State))
		s.rings["m"] = r
		p.entries["m"][0].e.Stamp = x.stamp
		if e := s.Install(x.c); e != x.e {
			t.Fatalf("%v of %v: %d, not %d", x.c, x.stamp, e, x.e)
		}
		if x.e != api.OK {
			same(t, s, p)
		} else if e := s.Install(x.c); e != api.ErrArg {
			t.Fatalf("%v of %v a second time: %d", x.c, x.stamp, e)
		}
	}
}

// P17.5: with nothing installed there is nothing to publish, at first and after a publication.
func TestNothingToPublish(t *testing.T) {
	s, p := fresh(t, config(beds, 2), bed())
	for i := range 3 {
		for _, local := range []bool{true, false} {
			if told, e := s.Publish(local); told != nil || e != api.ErrArg {
				t.Fatalf("%v %d", told, e)
			}
		}
		same(t, s, p)
		commit(t, s, p, false, value(int64(i)))
	}
	s, p = fresh(t, config(1, 2), nil)
	if e := bothPublish(t, s, p, true); e != api.ErrArg {
		t.Errorf("%d", e)
	}
}

// P17.5: what is refused stays installed and changes nothing else; with what was missing it is published, all at once.
func TestRefusedThenCompleted(t *testing.T) {
	vmd := api.Object{Handle: "a", Kind: api.KdVmd, Parent: "d"}
	channel := api.Object{Handle: "b", Kind: api.KdChannel, Parent: "a"}
	wide := with(of("m"), func(o *api.Object) { o.Hi = 1000 })
	high := with(of("l"), func(o *api.Object) { o.High = 1000 })
	for i, x := range []struct {
		first, then []api.Change
		e           api.Errno
		slots       int
	}{
		{[]api.Change{create(channel)}, []api.Change{create(vmd)}, api.ErrParent, 64},
		{[]api.Change{state(high)}, []api.Change{desc(wide)}, api.ErrLimit, 64},
		{[]api.Change{state(with(of("y"), func(o *api.Object) { o.Assoc = api.AsYes }))}, []api.Change{state(with(of("x"), func(o *api.Object) { o.Assoc = api.AsNo }))}, api.ErrAssoc, 64},
		{[]api.Change{create(context("n"))}, []api.Change{gone("y")}, api.ErrFull, beds},
		{[]api.Change{create(channel), create(vmd)}, []api.Change{gone("y"), gone("x")}, api.ErrFull, beds},
		{[]api.Change{gone("e")}, []api.Change{gone("e.x")}, api.ErrParent, 64},
		{[]api.Change{gone("s"), gone("l"), gone("k")}, []api.Change{gone("g"), gone("h")}, api.ErrParent, 64},
		{[]api.Change{gone("l")}, []api.Change{gone("g")}, api.ErrRef, 64},
	} {
		s, p := fresh(t, config(x.slots, 2), bed())
		for _, c := range x.first {
			bothInstall(t, s, p, c)
		}
		for _, local := range []bool{true, false, true} {
			if e := bothPublish(t, s, p, local); e != x.e {
				t.Fatalf("%d: %d, not %d", i, e, x.e)
			}
			same(t, s, p)
			whole(t, s, p)
		}
		for _, c := range x.then {
			bothInstall(t, s, p, c)
		}
		set := append(slices.Clone(x.first), x.then...)
		if l := s.Installed(); !slices.Equal(l, set) {
			t.Fatalf("%d: %v, not %v", i, l, set)
		}
		if e := bothPublish(t, s, p, true); e != api.OK {
			t.Fatalf("%d: %d", i, e)
		}
		same(t, s, p)
		whole(t, s, p)
	}
}

// P17.5: all changes of a version are told in order, each with the kind of its object, for all kinds of objects and changes.
func TestTold(t *testing.T) {
	s, p := fresh(t, config(64, 2), bed())
	for _, o := range bed() {
		for _, c := range []api.Change{desc(o), state(o)} {
			if e := s.Install(c); e != api.OK || p.install(c) != api.OK {
				t.Fatalf("%v: %d", c, e)
			}
			told, e := s.Publish(false)
			if !slices.Equal(told, []Told{{c, o.Kind}}) || e != api.OK {
				t.Fatalf("%v: %v %d", c, told, e)
			}
			p.publish(false)
		}
	}
	for _, l := range [][]string{{"g", "k", "h", "l", "m", "s", "c", "v"}, {"y", "d", "x"}, {"e.x", "e"}} {
		var set, back []api.Change
		var want, wantBack []Told
		for _, h := range l {
			set, back = append(set, gone(h)), append(back, create(of(h)))
			want, wantBack = append(want, Told{gone(h), of(h).Kind}), append(wantBack, Told{create(of(h)), of(h).Kind})
		}
		for _, x := range []struct {
			set  []api.Change
			want []Told
		}{{set, want}, {back, wantBack}, {set, want}} {
			for _, c := range x.set {
				bothInstall(t, s, p, c)
			}
			p.publish(false)
			if told, e := s.Publish(false); !slices.Equal(told, x.want) || e != api.OK {
				t.Fatalf("%v %d, not %v", told, e, x.want)
			}
		}
		same(t, s, p)
		whole(t, s, p)
	}
	if len(s.All()) != 0 {
		t.Errorf("%v", s.All())
	}
}

// P17.5: what becomes of an object by each of its fields alone: a CgDesc keeps its state, a CgState its descriptor.
func TestFields(t *testing.T) {
	for _, x := range []struct {
		h    string
		does func(o *api.Object)
		desc bool
	}{
		{"m", func(o *api.Object) { o.Lo = -11 }, true},
		{"m", func(o *api.Object) { o.Hi = 101 }, true},
		{"m", func(o *api.Object) { o.Digits = 6 }, true},
		{"m", func(o *api.Object) { o.Value = -10 }, false},
		{"m", func(o *api.Object) { o.Has, o.Value = false, 0 }, false},
		{"l", func(o *api.Object) { o.Type = 3 }, true},
		{"l", func(o *api.Object) { o.On = false }, false},
		{"l", func(o *api.Object) { o.Low = -10 }, false},
		{"l", func(o *api.Object) { o.High = 100 }, false},
		{"k", func(o *api.Object) { o.Type = 0 }, true},
		{"g", func(o *api.Object) { o.Ref = "k" }, true},
		{"h", func(o *api.Object) { o.Ref = "l" }, true},
		{"h", func(o *api.Object) { o.On = false }, false},
		{"s", func(o *api.Object) { o.On = false }, false},
		{"x", func(o *api.Object) { o.Type = 2 }, true},
		{"y", func(o *api.Object) { o.Assoc = api.AsNone }, false},
	} {
		s, p := fresh(t, config(beds, 2), bed())
		now := with(of(x.h), x.does)
		c, stamp := state(now), api.Stamp{Desc: 1, State: 2}
		if x.desc {
			c, stamp = desc(now), api.Stamp{Desc: 2, State: 1}
		}
		commit(t, s, p, false, c)
		read(t, s, x.h, 1, there(now, stamp.Desc, stamp.State), api.OK)
		read(t, s, x.h, 0, there(of(x.h), 1, 1), api.OK)
		if o, _ := wf.Find(s.All(), x.h); o != now {
			t.Fatalf("%v, not %v", o, now)
		}
		same(t, s, p)
	}
}

// P17.3, P17.5: which handles a local publication marks with the tick, and that none other does.
func TestLocal(t *testing.T) {
	s, p := fresh(t, config(beds+1, 2), bed())
	is := func(h string, tick int, found bool) {
		t.Helper()
		if n, got := s.Local(h); n != tick || got != found {
			t.Fatalf("Local of %q: %d %t, not %d %t", h, n, got, tick, found)
		}
	}
	pass := func() {
		s.Pass()
		p.pass()
	}
	for _, h := range p.handles() {
		is(h, 0, false)
	}
	commit(t, s, p, true, value(1)) // at tick 0, too
	is("m", 0, true)
	is("d", 0, false)
	pass()
	commit(t, s, p, false, value(2), create(context("n")))
	is("m", 0, true)
	is("n", 0, false)
	pass()
	commit(t, s, p, true, desc(of("m")), desc(of("k")), gone("y"), gone("n"), state(of("x")))
	is("m", 0, true)
	is("k", 0, false)
	is("y", 0, false)
	is("n", 0, false)
	is("x", 2, true)
	pass()
	commit(t, s, p, true, value(3), create(context("n")))
	is("m", 3, true)
	is("n", 3, true)
	is("x", 2, true)
	pass()
	commit(t, s, p, true, gone("n"))
	is("n", 3, true)
	commit(t, s, p, false, create(context("n")))
	is("n", 3, true)
	commit(t, s, p, false, state(context("n")))
	is("n", 3, true)
	pass()
	commit(t, s, p, true, state(context("n")))
	is("n", 5, true)
	same(t, s, p)
}

// P17.5: the tick is that of the publication, not that of the installation, and what is refused marks nothing.
func TestLocalAtPublication(t *testing.T) {
	s, p := fresh(t, config(beds, 2), bed())
	bothInstall(t, s, p, state(with(of("l"), func(o *api.Object) { o.High = 200 })))
	s.Pass()
	p.pass()
	if e := bothPublish(t, s, p, true); e != api.ErrLimit {
		t.Fatalf("%d", e)
	}
	same(t, s, p)
	bothInstall(t, s, p, desc(with(of("m"), func(o *api.Object) { o.Hi = 200 })))
	bothInstall(t, s, p, state(of("x")))
	for range 6 {
		s.Pass()
		p.pass()
	}
	same(t, s, p)
	if _, is := s.Local("l"); is {
		t.Fatalf("a change that was refused is local")
	}
	if _, is := s.Local("x"); is {
		t.Fatalf("a change that is installed is local")
	}
	bothPublish(t, s, p, true)
	for _, h := range []string{"l", "x"} {
		if n, is := s.Local(h); n != 7 || !is {
			t.Fatalf("%q: %d %t", h, n, is)
		}
	}
	same(t, s, p)
}

// states are stores in several states, with the same as plain ones.
func states(t *testing.T) ([]*Store, []*plain) {
	var stores []*Store
	var plains []*plain
	for many := range 7 {
		for installed := range 4 {
			s, p := fresh(t, config(beds+1, 2+many%3), bed())
			for i := range many {
				commit(t, s, p, i%2 == 0, value(int64(i)), state(with(of("x"), func(o *api.Object) { o.Assoc = uint8(i % 4) })))
				s.Pass()
				p.pass()
			}
			for _, c := range []api.Change{value(99), create(context("n")), gone("y")}[:installed] {
				bothInstall(t, s, p, c)
			}
			stores, plains = append(stores, s), append(plains, p)
		}
	}
	return stores, plains
}

// goOn does several things with a store, other ones for each way.
func goOn(t *testing.T, s *Store, p *plain, way int) {
	t.Helper()
	for i := range 3 {
		bothInstall(t, s, p, value(int64(10*way+i)))
		bothInstall(t, s, p, state(with(of("l"), func(o *api.Object) { o.Low = int64(way + i) })))
		if i == way%3 {
			bothInstall(t, s, p, gone("e.x"))
		}
		for range way + i {
			s.Pass()
			p.pass()
		}
		bothPublish(t, s, p, (way+i)%2 == 0)
	}
	bothInstall(t, s, p, desc(of("k")))
}

// P17.6: a copy goes on alone, and so does what it was made of, and a copy of a copy.
func TestCopyGoesOnAlone(t *testing.T) {
	stores, plains := states(t)
	for i, s := range stores {
		p := plains[i]
		c := s.Copy()
		if c == nil || c == s {
			t.Fatalf("%p of %p", c, s)
		}
		d := c.Copy()
		q, r := p.copy(), p.copy()
		same(t, c, q)
		same(t, d, r)
		goOn(t, s, p, 1)
		same(t, c, q)
		same(t, d, r)
		goOn(t, c, q, 2)
		same(t, s, p)
		same(t, d, r)
		goOn(t, d, r, 3)
		same(t, s, p)
		same(t, c, q)
		same(t, d, r)
		whole(t, s, p)
		whole(t, c, q)
		whole(t, d, r)
	}
}

// P17.6: copies in which one thing alone is done.
func TestCopyOfEachPart(t *testing.T) {
	for i, does := range []func(t *testing.T, s *Store, p *plain){
		func(t *testing.T, s *Store, p *plain) { s.Pass(); p.pass() },
		func(t *testing.T, s *Store, p *plain) { bothInstall(t, s, p, value(7)) },
		func(t *testing.T, s *Store, p *plain) { bothInstall(t, s, p, state(of("l"))) },
		func(t *testing.T, s *Store, p *plain) { bothInstall(t, s, p, create(context("o"))) },
		func(t *testing.T, s *Store, p *plain) { bothPublish(t, s, p, true) },
		func(t *testing.T, s *Store, p *plain) { bothPublish(t, s, p, false) },
	} {
		for _, inCopy := range []bool{true, false} {
			stores, plains := states(t)
			for k, s := range stores {
				p := plains[k]
				c, q := s.Copy(), p.copy()
				if inCopy {
					does(t, c, q)
				} else {
					does(t, s, p)
				}
				same(t, s, p)
				same(t, c, q)
				if !inCopy { // afterwards the other one does it, too
					does(t, c, q)
					same(t, s, p)
					same(t, c, q)
				}
			}
			if len(stores) == 0 {
				t.Fatalf("%d: no stores", i)
			}
		}
	}
}

// P17.6: with each number of installed changes, a store and its copy take different ones.
func TestCopyOfInstalledChanges(t *testing.T) {
	stated := []string{"m", "s", "l", "k", "g", "h", "x", "y"}
	for many := range 8 {
		s, p := fresh(t, config(beds, 2), bed())
		for _, h := range stated[:many] {
			bothInstall(t, s, p, state(of(h)))
		}
		c, q := s.Copy(), p.copy()
		bothInstall(t, s, p, state(of("y")))
		bothInstall(t, c, q, gone("e.x"))
		same(t, s, p)
		same(t, c, q)
		bothPublish(t, c, q, true)
		same(t, s, p)
		bothPublish(t, s, p, false)
		same(t, s, p)
		same(t, c, q)
	}
}

// unmade gives Stores that New and Copy did not return.
func unmade(t *testing.T) []*Store {
	s, p := fresh(t, config(beds, 2), bed())
	commit(t, s, p, true, value(1))
	bothInstall(t, s, p, value(2))
	fromNew, fromCopy := *s, *s.Copy()
	again := fromNew
	return []*Store{nil, {}, new(Store), &fromNew, &fromCopy, &again, fromNew.Copy(), new(Store).Copy()}
}

// answersNothing holds what such a Store answers.
func answersNothing(t *testing.T, s *Store) {
	t.Helper()
	if s.Config() != (api.Config{}) || s.Version() != 0 || s.Tick() != 0 || len(s.All()) != 0 || len(s.Installed()) != 0 || s.Pass() != api.ErrNil {
		t.Fatalf("%v %d %d %v %v", s.Config(), s.Version(), s.Tick(), s.All(), s.Installed())
	}
	for _, h := range append(strange, "d", "m", "zz") {
		if n, is := s.Local(h); s.Last(h) != -1 || n != 0 || is {
			t.Fatalf("%q: %d, %d %t", h, s.Last(h), n, is)
		}
		for _, v := range []int{-1, 0, 1, 2, math.MinInt, math.MaxInt} {
			read(t, s, h, v, api.Entry{}, api.ErrNil)
		}
	}
	for _, c := range append(wrongChanges(), value(1), gone("m"), create(context("n"))) {
		if s.Install(c) != api.ErrNil || s.Check([]api.Change{c}) != api.ErrNil || s.Check([]api.Change{c, c}) != api.ErrNil {
			t.Fatalf("%v: %d %d", c, s.Install(c), s.Check([]api.Change{c}))
		}
	}
	if s.Check(nil) != api.ErrNil {
		t.Fatalf("%d", s.Check(nil))
	}
	for _, local := range []bool{true, false} {
		if told, e := s.Publish(local); told != nil || e != api.ErrNil {
			t.Fatalf("%v %d", told, e)
		}
	}
}

// P17.2 to P17.6: nothing is to be had of such Stores, nor of their copies, whatever was called before.
func TestStoresThatNewAndCopyDidNotReturn(t *testing.T) {
	for i, s := range unmade(t) {
		answersNothing(t, s)
		c := s.Copy()
		if (s == nil) != (c == nil) || s != nil && s == c {
			t.Errorf("%d: %p of %p", i, c, s)
		}
		answersNothing(t, c)
		answersNothing(t, s)
	}
}

// P17.6: an assignment is no way into a store.
func TestAssignedStoreLeavesTheOtherAsItIs(t *testing.T) {
	s, p := fresh(t, config(beds, 2), bed())
	bothInstall(t, s, p, value(1))
	a := *s
	a.Install(gone("y"))
	a.Publish(true)
	a.Pass()
	a.Copy().Publish(true)
	same(t, s, p)
	bothPublish(t, s, p, true)
	same(t, s, p)
}

// P17.1 to P17.5: lists belong to who passed them, and to who got them.
func TestListsAreOnesOwn(t *testing.T) {
	l := bed()
	s, p := fresh(t, config(beds+1, 2), l)
	clear(l)
	same(t, s, p)
	set := []api.Change{value(1), gone("y")}
	s.Check(set)
	bothInstall(t, s, p, set[0])
	bothInstall(t, s, p, set[1])
	clear(set)
	same(t, s, p)
	first, second := s.All(), s.All()
	clear(first)
	_ = append(second[:0], api.Object{Handle: "q"})
	for range 2 {
		one, other := s.Installed(), s.Installed()
		clear(one)
		_ = append(other[:1], state(of("x")), state(of("g")), state(of("h")))
		same(t, s, p)
	}
	bothInstall(t, s, p, state(of("x")))
	before := s.Installed()
	bothInstall(t, s, p, state(of("k")))
	if !slices.Equal(before, p.installed[:3]) {
		t.Fatalf("%v", before)
	}
	told, _ := s.Publish(false)
	p.publish(false)
	kept := slices.Clone(told)
	same(t, s, p)
	all := s.All()
	shot := slices.Clone(all)
	commit(t, s, p, false, value(3), state(of("x")), create(context("n")))
	if !slices.Equal(told, kept) || !slices.Equal(all, shot) || !slices.Equal(before, []api.Change{value(1), gone("y"), state(of("x"))}) {
		t.Fatalf("%v %v %v", told, all, before)
	}
	clear(told)
	clear(all)
	same(t, s, p)
}

// P17.2 to P17.4: calls that only ask change nothing, in any state.
func TestAskingChangesNothing(t *testing.T) {
	stores, plains := states(t)
	for i, s := range stores {
		for range 2 {
			same(t, s, plains[i])
			s.Copy()
			for _, set := range orders() {
				if e := s.Check(set); e != plains[i].check(set) {
					t.Fatalf("%v: %d, not %d", set, e, plains[i].check(set))
				}
			}
		}
		if len(s.rings) != len(plains[i].entries) {
			t.Fatalf("%d rings, not %d", len(s.rings), len(plains[i].entries))
		}
	}
}

// P17.4: a check is of the published tree, whatever is installed.
func TestCheckIsOfThePublishedTree(t *testing.T) {
	s, p := fresh(t, config(beds+1, 2), bed())
	n := context("n")
	sets := [][]api.Change{nil, {create(n)}, {state(n)}, {gone("n")}, {gone("y")}, {state(of("y"))}, {value(1)}, {value(101)}, {create(n), create(context("o"))}}
	for _, c := range []api.Change{create(n), gone("y"), value(101)} {
		for _, set := range sets {
			if e := s.Check(set); e != p.check(set) {
				t.Fatalf("%v: %d, not %d", set, e, p.check(set))
			}
		}
		bothInstall(t, s, p, c)
	}
	for i, want := range []api.Errno{api.OK, api.OK, api.ErrNone, api.ErrNone, api.OK, api.OK, api.OK, api.ErrRange, api.ErrFull} {
		if e := s.Check(sets[i]); e != want {
			t.Fatalf("%v: %d, not %d", sets[i], e, want)
		}
	}
	long := slices.Repeat([]api.Change{gone("y")}, 9)
	for i, o := range bed()[:9] {
		long[i] = state(o)
	}
	if s.Check(long) != api.ErrChange || s.Check(long[3:5]) != api.OK || s.Check(slices.Repeat(long[3:4], 2)) != api.ErrChange {
		t.Errorf("%d", s.Check(long))
	}
}

// seen is what a store told of a handle at a version once.
type seen struct {
	h       string
	version int
	e       api.Entry
	err     api.Errno
}

// remember gives what the store tells of all handles of p at all its versions.
func remember(s *Store, p *plain) []seen {
	var l []seen
	for h := range p.entries {
		for v := range s.Version() + 1 {
			e, err := s.Read(h, v)
			l = append(l, seen{h, v, e, err})
		}
	}
	return l
}

// isolated holds P17.8: since that was told, something was installed for the next version of now; older entries may be gone by it.
func isolated(t *testing.T, s *Store, l []seen, now int) {
	t.Helper()
	for _, x := range l {
		e, err := s.Read(x.h, x.version)
		if (e != x.e || err != x.err) && (x.version == now || err != api.ErrGone || e != (api.Entry{})) {
			t.Fatalf("Read of %q at %d: %v %d, and once %v %d", x.h, x.version, e, err, x.e, x.err)
		}
	}
}

// P17.8: what is installed is not read at the store's version, and then all of it is.
func TestIsolation(t *testing.T) {
	for size := 2; size <= 8; size++ {
		s, p := fresh(t, config(beds+1, size), bed())
		for i := range 2 * size {
			set := []api.Change{value(int64(i)), state(with(of("l"), func(o *api.Object) { o.Low = int64(i) })), desc(of("k")), create(context("n"))}
			if i%2 == 1 {
				set[3] = gone("n")
			}
			before, all := remember(s, p), s.All()
			for _, c := range set {
				bothInstall(t, s, p, c)
				isolated(t, s, before, i)
				if !slices.Equal(s.All(), all) {
					t.Fatalf("%v, not %v", s.All(), all)
				}
			}
			want, e := change.Apply(all, s.Installed())
			if told, err := s.Publish(true); e != api.OK || err != api.OK || len(told) != len(set) {
				t.Fatalf("%v %d", told, err)
			}
			p.publish(true)
			if !slices.Equal(s.All(), want) {
				t.Fatalf("%v, not %v", s.All(), want)
			}
			same(t, s, p)
			whole(t, s, p)
		}
	}
}

// P17.1 to P17.9: all there is to do with a small store, step by step.
func TestAllShortSequences(t *testing.T) {
	d := of("d")
	x := context("x")
	on := with(x, func(o *api.Object) { o.Assoc = api.AsYes })
	y := with(on, func(o *api.Object) { o.Handle = "y" })
	changes := []api.Change{create(x), create(y), state(on), gone("x"), gone("d")}
	for _, cfg := range []api.Config{{Slots: 3, Ring: 2, Queue: 1, Versions: 4}, {Slots: 2, Ring: 3, Queue: 1, Versions: 4}} {
		var walk func(s *Store, p *plain, left int)
		walk = func(s *Store, p *plain, left int) {
			same(t, s, p)
			whole(t, s, p)
			if left == 0 {
				return
			}
			for _, c := range changes {
				one, other := s.Copy(), p.copy()
				if bothInstall(t, one, other, c) == api.OK {
					walk(one, other, left-1)
				} else {
					same(t, one, other)
				}
			}
			for _, local := range []bool{true, false} {
				one, other := s.Copy(), p.copy()
				one.Pass()
				other.pass()
				if bothPublish(t, one, other, local) == api.OK {
					walk(one, other, left-1)
				} else {
					same(t, one, other)
				}
			}
			same(t, s, p)
		}
		s, p := fresh(t, cfg, []api.Object{d})
		walk(s, p, 16)
	}
}

// thrown gives a change that may or may not fit: of an object of bed, or of one that is none.
func thrown(dice *rand.Rand, now []api.Object) api.Change {
	l := append(bed(), context("n"), context("o"), api.Object{Handle: "w", Kind: api.KdVmd, Parent: "e"}, api.Object{Handle: "w.c", Kind: api.KdChannel, Parent: "w"})
	o := l[dice.IntN(len(l))]
	was, there := wf.Find(now, o.Handle)
	if there && dice.IntN(8) > 0 {
		o = was
	}
	switch dice.IntN(8) {
	case 0:
		o.Assoc = uint8(dice.IntN(4))
	case 1:
		o.On = !o.On
	case 2:
		o.Hi += int64(dice.IntN(20) - 5)
	case 3:
		o.Type = uint8(dice.IntN(4))
	default:
		if o.Kind == api.KdMetric {
			o.Value = int64(dice.IntN(110) - 10)
		}
	}
	kind := dice.IntN(12)
	switch {
	case !there && kind < 11:
		return create(o)
	case kind < 6:
		return state(o)
	case kind < 9:
		return desc(o)
	case kind < 11:
		return gone(o.Handle)
	}
	return create(o)
}

// P17.1 to P17.9: long ways through stores of all sorts, with thrown changes and copies of which one goes on; the same in each run. As nothing takes back what is installed, a store that was refused several times gives way to a copy from before.
func TestLongSequences(t *testing.T) {
	dice := rand.New(rand.NewPCG(17, 1))
	published, refused := 0, 0
	for round := range 84 {
		cfg := config(beds+round%3, 2+round%7)
		cfg.Versions = 20 + 20*(round%4)
		s, p := fresh(t, cfg, bed()[:beds-2*(round%2)])
		before, beforePlain, stuck := s.Copy(), p.copy(), 0
		for range 300 {
			switch n := dice.IntN(10); {
			case n < 6:
				throw(t, s, p, dice)
			case n < 9 && bothPublish(t, s, p, dice.IntN(2) == 0) == api.OK:
				published++
				before, beforePlain, stuck = s.Copy(), p.copy(), 0
			case n < 9 && len(p.installed) > 0:
				refused++
				stuck++
			case n == 9:
				s.Pass()
				p.pass()
				left, leftPlain := s, p
				s, p = s.Copy(), p.copy()
				goOn(t, left, leftPlain, dice.IntN(4))
			}
			if stuck == 3 {
				s, p, stuck = before.Copy(), beforePlain.copy(), 0
			}
			same(t, s, p)
			whole(t, s, p)
		}
	}
	if published < 1000 || refused < 1000 {
		t.Errorf("only %d were published, %d refused", published, refused)
	}
}

// throw installs a thrown change, and checks a set with another one.
func throw(t *testing.T, s *Store, p *plain, dice *rand.Rand) {
	t.Helper()
	before, now := remember(s, p), s.Version()
	bothInstall(t, s, p, thrown(dice, p.now()))
	isolated(t, s, before, now)
	set := append(s.Installed(), thrown(dice, p.now()))
	if e := s.Check(set); e != p.check(set) {
		t.Fatalf("Check of %v: %d, not %d", set, e, p.check(set))
	}
}
