package object

import (
	"math"
	"reflect"
	"strconv"
	"strings"
	"testing"

	"bedside/api"
)

// sound holds an object without fault of each kind, with every field that the kind has.
func sound() []api.Object {
	return []api.Object{
		{Handle: "d", Kind: api.KdMds},
		{Handle: "v", Kind: api.KdVmd, Parent: "d"},
		{Handle: "c", Kind: api.KdChannel, Parent: "v"},
		{Handle: "m", Kind: api.KdMetric, Parent: "c", Lo: -5, Hi: 100, Digits: 1, Has: true, Value: 37},
		{Handle: "s", Kind: api.KdAlertSystem, Parent: "d", On: true},
		{Handle: "k", Kind: api.KdCondition, Parent: "s", Type: 2, Ref: "m", On: true},
		{Handle: "g", Kind: api.KdSignal, Parent: "s", Ref: "k", On: true},
		{Handle: "l", Kind: api.KdLimit, Parent: "s", Type: 3, Ref: "m", On: true, Low: 1, High: 2},
		{Handle: "x", Kind: api.KdContext, Parent: "d", Type: 1, Assoc: 2},
	}
}

// owners says of each field, by its name in api.Object, which kinds have it.
var owners = map[string][]uint8{
	"Parent": {api.KdVmd, api.KdChannel, api.KdMetric, api.KdAlertSystem, api.KdCondition, api.KdSignal, api.KdLimit, api.KdContext},
	"Type":   {api.KdContext, api.KdCondition, api.KdLimit},
	"Ref":    {api.KdCondition, api.KdLimit, api.KdSignal},
	"Lo":     {api.KdMetric},
	"Hi":     {api.KdMetric},
	"Digits": {api.KdMetric},
	"On":     {api.KdAlertSystem, api.KdCondition, api.KdSignal, api.KdLimit},
	"Has":    {api.KdMetric},
	"Value":  {api.KdMetric},
	"Low":    {api.KdLimit},
	"High":   {api.KdLimit},
	"Assoc":  {api.KdContext},
}

// stateFields are those from On to Assoc.
var stateFields = map[string]bool{"On": true, "Has": true, "Value": true, "Low": true, "High": true, "Assoc": true}

func owns(kind uint8, name string) bool {
	for _, k := range owners[name] {
		if k == kind {
			return true
		}
	}
	return false
}

func with(o api.Object, does func(o *api.Object)) api.Object {
	does(&o)
	return o
}

// tryHandle is a second way to tell a handle, for the handles that these tests have.
func tryHandle(s string) bool {
	return s != "" && len(s) <= 16 && !strings.ContainsAny(s, " =MX") && !strings.HasSuffix(s, ".") && s[0] >= 'a' && s[0] <= 'z'
}

func tryNumber(n int64) bool {
	return n >= -1_000_000_000_000_000 && n <= 1_000_000_000_000_000
}

// model is the chapter's definition once more, by reflection. parts: "whole", "desc" or "state".
func model(o api.Object, part string) api.Errno {
	v := reflect.ValueOf(&o).Elem()
	for name := range owners {
		if part == "desc" && stateFields[name] || part == "state" && !stateFields[name] {
			v.FieldByName(name).SetZero()
		}
	}
	if o.Kind < 1 || o.Kind > 9 || o.Type > 3 || o.Assoc > 3 {
		return api.ErrKind
	}
	for name := range owners {
		if !owns(o.Kind, name) && !v.FieldByName(name).IsZero() {
			return api.ErrKind
		}
	}
	if !tryHandle(o.Handle) {
		return api.ErrHandle
	}
	if part != "state" && (owns(o.Kind, "Parent") && !tryHandle(o.Parent) || owns(o.Kind, "Ref") && !tryHandle(o.Ref)) {
		return api.ErrHandle
	}
	for _, n := range []int64{o.Lo, o.Hi, o.Value, o.Low, o.High} {
		if !tryNumber(n) {
			return api.ErrNumber
		}
	}
	if o.Digits > 6 || !o.Has && o.Value != 0 {
		return api.ErrNumber
	}
	if o.Lo > o.Hi || o.Low > o.High || part != "state" && o.Has && (o.Value < o.Lo || o.Value > o.Hi) {
		return api.ErrRange
	}
	return api.OK
}

// values gives, for a field, what the tests fill it with.
func values(name string) []any {
	const most = int64(1_000_000_000_000_000)
	switch name {
	case "Parent", "Ref":
		return []any{"", "a", "a.", "M", "abcdefghijklmnop", "abcdefghijklmnopq", "a b"}
	case "Type", "Assoc":
		return []any{uint8(0), uint8(1), uint8(3), uint8(4), uint8(255)}
	case "Digits":
		return []any{uint8(0), uint8(6), uint8(7), uint8(255)}
	case "On", "Has":
		return []any{false, true}
	}
	return []any{int64(0), int64(-6), int64(1), int64(101), most, -most, most + 1, -most - 1, int64(math.MaxInt64), int64(math.MinInt64)}
}

// each calls does for each sound object with one field, or two, filled otherwise, and with other handles and kinds.
func each(does func(o api.Object)) {
	names := []string{"Parent", "Type", "Ref", "Lo", "Hi", "Digits", "On", "Has", "Value", "Low", "High", "Assoc"}
	for _, base := range sound() {
		for kind := range 12 {
			does(with(base, func(o *api.Object) { o.Kind = uint8(kind) }))
			does(api.Object{Handle: "z", Kind: uint8(kind)})
			does(api.Object{Handle: "z", Kind: uint8(kind), Parent: "p"})
		}
		for _, h := range []string{"", "M", "a.", "abcdefghijklmnop", "abcdefghijklmnopq"} {
			does(with(base, func(o *api.Object) { o.Handle = h }))
		}
		for i, first := range names {
			for _, second := range names[i:] {
				for _, a := range values(first) {
					for _, b := range values(second) {
						o := base
						v := reflect.ValueOf(&o).Elem()
						v.FieldByName(first).Set(reflect.ValueOf(a))
						v.FieldByName(second).Set(reflect.ValueOf(b))
						does(o)
					}
				}
			}
		}
	}
}

// P4.1
func TestFaultsAreThoseOfTheChapter(t *testing.T) {
	each(func(o api.Object) {
		all, desc, state := May(o), MayDesc(o), MayState(o)
		if all != model(o, "whole") || desc != model(o, "desc") || state != model(o, "state") {
			t.Fatalf("%+v: %v %v %v, not %v %v %v", o, all, desc, state, model(o, "whole"), model(o, "desc"), model(o, "state"))
		}
	})
}

// P4.1
func TestMayFindsEachFault(t *testing.T) {
	l := sound()
	metric, system, condition, signal, limit, context := l[3], l[4], l[5], l[6], l[7], l[8]
	const most = 1_000_000_000_000_000
	for i, x := range []struct {
		o                api.Object
		all, desc, state api.Errno
	}{
		{api.Object{}, api.ErrKind, api.ErrKind, api.ErrKind},
		{api.Object{Handle: "d", Kind: 10}, api.ErrKind, api.ErrKind, api.ErrKind},
		{api.Object{Handle: "d", Kind: 255}, api.ErrKind, api.ErrKind, api.ErrKind},
		{api.Object{Handle: "d", Kind: api.KdMds, Parent: "x"}, api.ErrKind, api.ErrKind, api.OK},
		{with(limit, func(o *api.Object) { o.Type = 4 }), api.ErrKind, api.ErrKind, api.OK},
		{with(context, func(o *api.Object) { o.Type = 3 }), api.OK, api.OK, api.OK},
		{with(context, func(o *api.Object) { o.Assoc = api.AsNo }), api.OK, api.OK, api.OK},
		{with(context, func(o *api.Object) { o.Assoc = api.AsNo + 1 }), api.ErrKind, api.OK, api.ErrKind},
		{with(signal, func(o *api.Object) { o.Type = 1 }), api.ErrKind, api.ErrKind, api.OK},
		{with(system, func(o *api.Object) { o.Ref = "m" }), api.ErrKind, api.ErrKind, api.OK},
		{with(metric, func(o *api.Object) { o.On = true }), api.ErrKind, api.OK, api.ErrKind},
		{with(limit, func(o *api.Object) { o.Handle = "" }), api.ErrHandle, api.ErrHandle, api.ErrHandle},
		{with(limit, func(o *api.Object) { o.Parent = "S" }), api.ErrHandle, api.ErrHandle, api.OK},
		{with(limit, func(o *api.Object) { o.Ref = "m." }), api.ErrHandle, api.ErrHandle, api.OK},
		{with(condition, func(o *api.Object) { o.Ref = "" }), api.ErrHandle, api.ErrHandle, api.OK},
		{with(signal, func(o *api.Object) { o.Ref = "" }), api.ErrHandle, api.ErrHandle, api.OK},
		{with(metric, func(o *api.Object) { o.Digits = 6 }), api.OK, api.OK, api.OK},
		{with(metric, func(o *api.Object) { o.Digits = 7 }), api.ErrNumber, api.ErrNumber, api.OK},
		{with(metric, func(o *api.Object) { o.Lo, o.Hi = -most, most }), api.OK, api.OK, api.OK},
		{with(metric, func(o *api.Object) { o.Lo = -most - 1 }), api.ErrNumber, api.ErrNumber, api.OK},
		{with(metric, func(o *api.Object) { o.Hi = most + 1 }), api.ErrNumber, api.ErrNumber, api.OK},
		{with(metric, func(o *api.Object) { o.Value = most + 1 }), api.ErrNumber, api.OK, api.ErrNumber},
		{with(metric, func(o *api.Object) { o.Value = most }), api.ErrRange, api.OK, api.OK},
		{with(metric, func(o *api.Object) { o.Has = false }), api.ErrNumber, api.OK, api.ErrNumber},
		{with(metric, func(o *api.Object) { o.Has, o.Value, o.Lo = false, 0, 50 }), api.OK, api.OK, api.OK},
		{with(metric, func(o *api.Object) { o.Value = -5 }), api.OK, api.OK, api.OK},
		{with(metric, func(o *api.Object) { o.Value = 100 }), api.OK, api.OK, api.OK},
		{with(metric, func(o *api.Object) { o.Value = -6 }), api.ErrRange, api.OK, api.OK},
		{with(metric, func(o *api.Object) { o.Value = 101 }), api.ErrRange, api.OK, api.OK},
		{with(metric, func(o *api.Object) { o.Lo = 101 }), api.ErrRange, api.ErrRange, api.OK},
		{with(limit, func(o *api.Object) { o.Low, o.High = -most, most }), api.OK, api.OK, api.OK},
		{with(limit, func(o *api.Object) { o.Low = -most - 1 }), api.ErrNumber, api.OK, api.ErrNumber},
		{with(limit, func(o *api.Object) { o.High = most + 1 }), api.ErrNumber, api.OK, api.ErrNumber},
		{with(limit, func(o *api.Object) { o.Low = 2 }), api.OK, api.OK, api.OK},
		{with(limit, func(o *api.Object) { o.Low = 3 }), api.ErrRange, api.OK, api.ErrRange},
		// Several at once: the first of the chapter's order.
		{with(limit, func(o *api.Object) { o.Type, o.Handle, o.Low = 4, "", 3 }), api.ErrKind, api.ErrKind, api.ErrHandle},
		{with(limit, func(o *api.Object) { o.Ref, o.Low = "", most+1 }), api.ErrHandle, api.ErrHandle, api.ErrNumber},
		{with(metric, func(o *api.Object) { o.Digits, o.Lo, o.Value = 7, 101, 500 }), api.ErrNumber, api.ErrNumber, api.OK},
		{with(metric, func(o *api.Object) { o.Lo, o.Has = 101, false }), api.ErrNumber, api.ErrRange, api.ErrNumber},
	} {
		if all, desc, state := May(x.o), MayDesc(x.o), MayState(x.o); all != x.all || desc != x.desc || state != x.state {
			t.Errorf("%d: %v %v %v, not %v %v %v", i, all, desc, state, x.all, x.desc, x.state)
		}
	}
}

// P4.1: each kind with each field that it has not.
func TestAFieldOfAnotherKindIsAFault(t *testing.T) {
	filled := map[string]any{"Parent": "p", "Type": uint8(1), "Ref": "r", "Lo": int64(-1), "Hi": int64(1), "Digits": uint8(1), "On": true, "Has": true, "Value": int64(1), "Low": int64(-1), "High": int64(1), "Assoc": uint8(1)}
	for _, base := range sound() {
		for name, value := range filled {
			if owns(base.Kind, name) {
				continue
			}
			o := base
			reflect.ValueOf(&o).Elem().FieldByName(name).Set(reflect.ValueOf(value))
			desc, state := api.OK, api.ErrKind
			if !stateFields[name] {
				desc, state = api.ErrKind, api.OK
			}
			if May(o) != api.ErrKind || MayDesc(o) != desc || MayState(o) != state {
				t.Errorf("%+v: %v %v %v", o, May(o), MayDesc(o), MayState(o))
			}
		}
	}
}

// full has a value of its own in each field.
func full(plus int) api.Object {
	n := int64(plus)
	s := strconv.Itoa(plus)
	return api.Object{Handle: "h" + s, Kind: uint8(plus), Parent: "p" + s, Type: uint8(plus), Ref: "r" + s, Lo: n + 1, Hi: n + 2, Digits: uint8(plus), On: plus%2 == 0, Has: plus%2 == 0, Value: n + 3, Low: n + 4, High: n + 5, Assoc: uint8(plus)}
}

// P4.2, P4.6
func TestDescAndStateReplaceTheirPart(t *testing.T) {
	a, b := full(4), full(7)
	wantDesc := api.Object{Handle: "h4", Kind: 4, Parent: "p7", Type: 7, Ref: "r7", Lo: 8, Hi: 9, Digits: 7, On: true, Has: true, Value: 7, Low: 8, High: 9, Assoc: 4}
	if got := Desc(a, b); got != wantDesc {
		t.Errorf("Desc: %+v", got)
	}
	wantState := api.Object{Handle: "h4", Kind: 4, Parent: "p4", Type: 4, Ref: "r4", Lo: 5, Hi: 6, Digits: 4, On: false, Has: false, Value: 10, Low: 11, High: 12, Assoc: 7}
	if got := State(a, b); got != wantState {
		t.Errorf("State: %+v", got)
	}
}

// P4.3
func TestBareAndOnlyLeaveTheOtherPartOut(t *testing.T) {
	a := full(4)
	if got, want := Bare(a), (api.Object{Handle: "h4", Kind: 4, Parent: "p4", Type: 4, Ref: "r4", Lo: 5, Hi: 6, Digits: 4}); got != want {
		t.Errorf("Bare: %+v", got)
	}
	if got, want := Only(a), (api.Object{Handle: "h4", Kind: 4, On: true, Has: true, Value: 7, Low: 8, High: 9, Assoc: 4}); got != want {
		t.Errorf("Only: %+v", got)
	}
}

// P4.3
func TestWordsOfKinds(t *testing.T) {
	want := []string{"", "mds", "vmd", "channel", "metric", "system", "condition", "signal", "limit", "context"}
	for kind := range 256 {
		word := ""
		if kind < len(want) {
			word = want[kind]
		}
		if got := Word(uint8(kind)); got != word {
			t.Errorf("%d: %q", kind, got)
		}
	}
}

// P4.4
func TestTextOfEachKind(t *testing.T) {
	want := []string{
		"mds d",
		"vmd v parent=d",
		"channel c parent=v",
		"metric m parent=c lo=-5 hi=100 digits=1 has=1 value=37",
		"system s parent=d on=1",
		"condition k parent=s type=2 ref=m on=1",
		"signal g parent=s ref=k on=1",
		"limit l parent=s type=3 ref=m on=1 low=1 high=2",
		"context x parent=d type=1 assoc=2",
	}
	for i, o := range sound() {
		if s, e := Text(o); s != want[i] || e != api.OK {
			t.Errorf("%q %v, not %q", s, e, want[i])
		}
		if p, e := Parse(want[i]); p != o || e != api.OK {
			t.Errorf("%q: %+v %v", want[i], p, e)
		}
	}
	for s, o := range map[string]api.Object{
		"metric m parent=c hi=100 digits=1 has=1 value=37": {Handle: "m", Kind: api.KdMetric, Parent: "c", Hi: 100, Digits: 1, Has: true, Value: 37},
		"metric m parent=c has=1":                          {Handle: "m", Kind: api.KdMetric, Parent: "c", Has: true},
		"metric m parent=c lo=-1000000000000000 hi=-3":     {Handle: "m", Kind: api.KdMetric, Parent: "c", Lo: -api.MaxNumber, Hi: -3},
		"limit l parent=s ref=m high=1000000000000000":     {Handle: "l", Kind: api.KdLimit, Parent: "s", Ref: "m", High: api.MaxNumber},
	} {
		if text, e := Text(o); text != s || e != api.OK {
			t.Errorf("%q %v, not %q", text, e, s)
		}
		if p, e := Parse(s); p != o || e != api.OK {
			t.Errorf("%q: %+v %v", s, p, e)
		}
	}
}

// P4.4
func TestTextGivesTheFault(t *testing.T) {
	metric := sound()[3]
	for e, o := range map[api.Errno]api.Object{
		api.ErrKind:   with(metric, func(o *api.Object) { o.Assoc = 1 }),
		api.ErrHandle: with(metric, func(o *api.Object) { o.Parent = "" }),
		api.ErrNumber: with(metric, func(o *api.Object) { o.Digits = 7 }),
		api.ErrRange:  with(metric, func(o *api.Object) { o.Value = 101 }),
	} {
		if s, got := Text(o); s != "" || got != e {
			t.Errorf("%q %v, not %v", s, got, e)
		}
	}
}

// P4.4
func TestParseRefusesWhatIsNoText(t *testing.T) {
	for _, s := range []string{
		"", " ", "  ", "mds", "mds ", " mds d", "mds  d", "mds d ", "mds d e", "mds D", "mds d.", "device d", "MDS d", "d mds",
		"vmd v", "vmd v parent", "vmd v parent=", "vmd v =d", "vmd v parent==d", "vmd v parent=d=", "vmd  v parent=d", "vmd v  parent=d", "vmd v parent=d ", "vmd v parent=d  ", "vmd v parent=D", "vmd v parent=d\n", "vmd v\tparent=d", "vmd v Parent=d", "vmd v parent = d", "vmd v parent=d on=1", "vmd v parent=d parent=d", "vmd v parent=e parent=d",
		"mds d parent=d", "mds abcdefghijklmnopq", "mds d x=1", "mds d handle=d", "mds d kind=1",
		"metric m parent=c hi=100 lo=5", "metric m hi=100 parent=c", "metric m parent=c hi=100 hi=100", "metric m parent=c hi=5 hi=100",
		"metric m parent=c lo=0 hi=100", "metric m parent=c hi=+100", "metric m parent=c hi=0100", "metric m parent=c lo=-0", "metric m parent=c lo=-05 hi=1", "metric m parent=c hi=1e2", "metric m parent=c hi=0x10", "metric m parent=c hi=1_0", "metric m parent=c hi=", "metric m parent=c hi=-", "metric m parent=c hi=10.0", "metric m parent=c hi= 10",
		"metric m parent=c hi=1000000000000001", "metric m parent=c hi=18446744073709551617", "metric m parent=c lo=-9223372036854775808", "metric m parent=c hi=" + strings.Repeat("9", 400),
		"metric m parent=c digits=7", "metric m parent=c digits=257", "metric m parent=c digits=-255", "metric m parent=c digits=0",
		"metric m parent=c has=0", "metric m parent=c has=2", "metric m parent=c has=true", "metric m parent=c has=01", "metric m parent=c has=-1", "metric m parent=c has=1 value=0", "metric m parent=c value=0", "metric m parent=c hi=100 value=7", "metric m parent=c has=1 value=7", "metric m parent=c lo=1",
		"system s parent=d on=1 on=1", "system s parent=d on=0", "system s parent=d type=1",
		"limit l parent=s ref=m low=3 high=2", "limit l parent=s ref=m type=1", "limit l parent=s low=1 high=2", "limit l parent=s ref=m has=1",
		"context x parent=d assoc=4", "context x parent=d assoc=258", "context x parent=d type=4", "context x parent=d type=260", "context x parent=d assoc=2 type=1",
		strings.Repeat(" ", 100_000), "system s parent=d" + strings.Repeat(" on=1", 10_000), "mds \xff", "mds \x00", "mds é",
	} {
		if o, e := Parse(s); o != (api.Object{}) || e != api.ErrArg {
			t.Errorf("%.60q: %+v %v", s, o, e)
		}
	}
}

// P4.5
func TestTextsAndObjectsGoRound(t *testing.T) {
	texts := 0
	each(func(o api.Object) {
		s, e := Text(o)
		if e != May(o) {
			t.Fatalf("%+v: %v", o, e)
		}
		if e != api.OK {
			return
		}
		texts++
		if p, e := Parse(s); p != o || e != api.OK {
			t.Fatalf("%q: %+v %v", s, p, e)
		}
	})
	if texts == 0 {
		t.Error("no text at all")
	}
}

// P4.5: whatever one byte makes of a text, what is parsed has the input as its text.
func TestWhatIsParsedHasTheInputAsItsText(t *testing.T) {
	for _, o := range sound() {
		s, _ := Text(o)
		for i := range len(s) + 1 {
			for _, c := range " =-+0127adgmnsx.M" {
				tries := []string{s[:i] + string(c) + s[i:]}
				if i < len(s) {
					tries = append(tries, s[:i]+s[i+1:], s[:i]+string(c)+s[i+1:])
				}
				for _, u := range tries {
					p, e := Parse(u)
					if e == api.ErrArg && p == (api.Object{}) {
						continue
					}
					if again, f := Text(p); e != api.OK || f != api.OK || again != u {
						t.Fatalf("%q: %+v %v, again %q %v", u, p, e, again, f)
					}
				}
			}
		}
	}
}

// P4.6
func TestAnObjectConsistsOfItsParts(t *testing.T) {
	other := full(7)
	each(func(o api.Object) {
		if State(Bare(o), o) != o || Desc(Only(o), o) != o || State(Bare(o), Only(o)) != o {
			t.Fatalf("%+v: %+v %+v", o, State(Bare(o), o), Desc(Only(o), o))
		}
		if Only(Desc(o, other)) != Only(o) || Bare(State(o, other)) != Bare(o) {
			t.Fatalf("%+v: %+v %+v", o, Desc(o, other), State(o, other))
		}
		if Desc(o, o) != o || State(o, o) != o {
			t.Fatalf("%+v", o)
		}
	})
}

// P4.7
func TestFaultsOfPartsAndOfTheWhole(t *testing.T) {
	outside := 0
	each(func(o api.Object) {
		all, desc, state := May(o), MayDesc(o), MayState(o)
		if all == api.OK && (desc != api.OK || state != api.OK) {
			t.Fatalf("%+v: %v %v", o, desc, state)
		}
		if desc != api.OK || state != api.OK || all == api.OK {
			return
		}
		outside++
		if all != api.ErrRange || !o.Has || o.Value >= o.Lo && o.Value <= o.Hi {
			t.Fatalf("%+v: %v", o, all)
		}
	})
	if outside == 0 {
		t.Error("no value out of its range at all")
	}
}
