package record

import (
	"bytes"
	"encoding/binary"
	"math"
	"math/rand/v2"
	"reflect"
	"slices"
	"strings"
	"testing"

	"bedside/api"
	"bedside/octet"
)

// firstField is the place of Parent among the fields of api.Object.
const firstField = 2

// plain gives the encoding of an object, a change, a stamp or an entry, in another way than the package does: by the names and the order of api's fields.
func plain(x any) []byte {
	switch x := x.(type) {
	case api.Object:
		return plainObject(x)
	case api.Change:
		return append([]byte{x.Kind}, plainObject(x.O)...)
	case api.Stamp:
		return binary.AppendVarint(binary.AppendVarint(nil, int64(x.Desc)), int64(x.State))
	}
	e := x.(api.Entry)
	b := append(plainText(e.Handle), map[bool]byte{true: 1}[e.There])
	return append(append(b, plainObject(e.O)...), plain(e.Stamp)...)
}

func plainText(s string) []byte {
	return append(binary.AppendUvarint(nil, uint64(len(s))), s...)
}

func plainObject(o api.Object) []byte {
	var body []byte
	mask := uint64(0)
	v := reflect.ValueOf(o)
	for i := firstField; i < v.NumField(); i++ {
		f := v.Field(i)
		if f.IsZero() {
			continue
		}
		mask += uint64(math.Pow(2, float64(i-firstField)))
		switch f.Kind() {
		case reflect.String:
			body = append(body, plainText(f.String())...)
		case reflect.Uint8:
			body = append(body, byte(f.Uint()))
		case reflect.Int64:
			body = binary.AppendVarint(body, f.Int())
		}
	}
	return append(binary.AppendUvarint(append([]byte{o.Kind}, plainText(o.Handle)...), mask), body...)
}

func plainList[T any](l []T) []byte {
	b := binary.AppendUvarint(nil, uint64(len(l)))
	for _, x := range l {
		b = append(b, plain(x)...)
	}
	return b
}

// cursor reads encodings in another way than the package does; whatever is never written is bad.
type cursor struct {
	rest []byte
	bad  bool
}

func (c *cursor) take(n int) []byte {
	if c.bad || n > len(c.rest) {
		c.bad = true
		return make([]byte, n)
	}
	l := c.rest[:n]
	c.rest = c.rest[n:]
	return l
}

func (c *cursor) unsigned() uint64 {
	n, many := binary.Uvarint(c.rest)
	if many <= 0 || len(binary.AppendUvarint(nil, n)) != many {
		c.bad = true
		return 0
	}
	c.take(many)
	return n
}

func (c *cursor) signed() int64 {
	n, _ := binary.Varint(binary.AppendUvarint(nil, c.unsigned()))
	return n
}

func (c *cursor) text() string {
	n := c.unsigned()
	if n > 255 {
		c.bad = true
		return ""
	}
	return string(c.take(int(n)))
}

func (c *cursor) truth() bool {
	b := c.take(1)[0]
	c.bad = c.bad || b > 1
	return b == 1
}

func (c *cursor) object() api.Object {
	var o api.Object
	o.Kind = c.take(1)[0]
	o.Handle = c.text()
	mask := c.unsigned()
	v := reflect.ValueOf(&o).Elem()
	for i := firstField; i < v.NumField(); i++ {
		f := v.Field(i)
		if mask%2 == 1 {
			switch f.Kind() {
			case reflect.String:
				f.SetString(c.text())
			case reflect.Uint8:
				f.SetUint(uint64(c.take(1)[0]))
			case reflect.Int64:
				f.SetInt(c.signed())
			case reflect.Bool:
				f.SetBool(true)
			}
			c.bad = c.bad || f.IsZero()
		}
		mask /= 2
	}
	c.bad = c.bad || mask > 0
	return o
}

func (c *cursor) change() api.Change {
	kind := c.take(1)[0]
	return api.Change{Kind: kind, O: c.object()}
}

func (c *cursor) entry() api.Entry {
	var e api.Entry
	e.Handle = c.text()
	e.There = c.truth()
	e.O = c.object()
	e.Stamp.Desc = int(c.signed())
	e.Stamp.State = int(c.signed())
	return e
}

// sort is what the package has for elements of one type, and what its answers are held against.
type sort[T comparable] struct {
	put    func(w *octet.Writer, x T)
	get    func(r *octet.Reader) T
	list   func(l []T) ([]byte, api.Errno)
	read   func(b []byte) ([]T, api.Errno)
	plain  func(c *cursor) T
	with   func(o api.Object) T // one that contains the object
	sample []T
}

func objectSort() sort[api.Object] {
	return sort[api.Object]{PutObject, GetObject, Objects, ReadObjects, (*cursor).object, func(o api.Object) api.Object { return o }, objects()}
}

func changeSort() sort[api.Change] {
	return sort[api.Change]{PutChange, GetChange, Set, ReadSet, (*cursor).change, func(o api.Object) api.Change { return api.Change{Kind: api.CgState, O: o} }, changes()}
}

func entrySort() sort[api.Entry] {
	with := func(o api.Object) api.Entry {
		return api.Entry{Handle: "e", There: true, O: o, Stamp: api.Stamp{Desc: 5, State: -300}}
	}
	return sort[api.Entry]{PutEntry, GetEntry, Entries, ReadEntries, (*cursor).entry, with, entries()}
}

// full is an object of which no field is zero.
func full() api.Object {
	return api.Object{Handle: "h", Kind: 4, Parent: "pp", Type: 3, Ref: "r.r", Lo: -1, Hi: 64, Digits: 6, On: true, Has: true, Value: 300, Low: -70000, High: api.MaxNumber, Assoc: 2}
}

// values gives what the field of that kind is set to: its least and its greatest values, and some between.
func values(kind reflect.Kind) []any {
	var l []any
	switch kind {
	case reflect.String:
		for _, n := range []int{1, 2, 16, 17, 127, 128, 254, 255} {
			l = append(l, strings.Repeat("x", n))
		}
		l = append(l, "\x00", "\xff\xfe", "a b\n", "Ω")
	case reflect.Uint8:
		for _, n := range []uint8{0, 1, 2, 3, 9, 10, 127, 128, 255} {
			l = append(l, n)
		}
	case reflect.Int64:
		for _, n := range []int64{1, -1, 2, -2, 63, 64, -64, -65, 8191, 8192, api.MaxNumber, -api.MaxNumber, math.MaxInt64, math.MinInt64} {
			l = append(l, n)
		}
	case reflect.Bool:
		l = append(l, true)
	}
	return l
}

// objects gives objects of each kind, with no field, each field alone, all of them, and all but each one.
func objects() []api.Object {
	l := []api.Object{{}, {Handle: "d", Kind: api.KdMds}, {Handle: "v", Kind: api.KdVmd, Parent: "d"}, full()}
	for i := range reflect.TypeFor[api.Object]().NumField() {
		but := full()
		reflect.ValueOf(&but).Elem().Field(i).SetZero()
		l = append(l, but)
		for _, x := range values(reflect.TypeFor[api.Object]().Field(i).Type.Kind()) {
			alone, all := api.Object{Handle: "h", Kind: 1}, full()
			reflect.ValueOf(&alone).Elem().Field(i).Set(reflect.ValueOf(x))
			reflect.ValueOf(&all).Elem().Field(i).Set(reflect.ValueOf(x))
			l = append(l, alone, all)
		}
	}
	return l
}

func changes() []api.Change {
	var l []api.Change
	for i, o := range objects() {
		l = append(l, api.Change{Kind: uint8(i % 6), O: o})
	}
	return append(l, api.Change{Kind: 255, O: full()}, api.Change{Kind: api.CgDelete, O: api.Object{Handle: "d"}})
}

func entries() []api.Entry {
	stamps := []int{0, 1, -1, 63, 64, -64, -65, api.MaxVersions, math.MaxInt64, math.MinInt64}
	var l []api.Entry
	for i, o := range objects() {
		l = append(l, api.Entry{Handle: o.Handle, There: i%3 > 0, O: o, Stamp: api.Stamp{Desc: stamps[i%10], State: stamps[i/10%10]}})
	}
	for _, x := range values(reflect.String) {
		l = append(l, api.Entry{Handle: x.(string)})
	}
	for _, a := range stamps {
		l = append(l, api.Entry{Handle: "a", Stamp: api.Stamp{Desc: a}}, api.Entry{There: true, O: full(), Stamp: api.Stamp{State: a}})
	}
	return append(l, api.Entry{}, api.Entry{There: true}, api.Entry{Handle: "other", There: true, O: full()})
}

// longest is the object with the longest encoding: it has 827 bytes.
func longest() api.Object {
	s := strings.Repeat("s", 255)
	return api.Object{Handle: s, Kind: 255, Parent: s, Type: 255, Ref: s, Lo: math.MinInt64, Hi: math.MaxInt64, Digits: 255, On: true, Has: true, Value: math.MinInt64, Low: math.MinInt64, High: math.MaxInt64, Assoc: 255}
}

// tooLong gives objects that have no encoding.
func tooLong() []api.Object {
	var l []api.Object
	for _, n := range []int{256, 257, 300, 70000} {
		s := strings.Repeat("s", n)
		l = append(l, api.Object{Handle: s}, api.Object{Handle: "a", Parent: s}, api.Object{Handle: "a", Kind: 8, Ref: s}, api.Object{Handle: s, Parent: s, Ref: s})
	}
	return l
}

// anyObject throws an object.
func anyObject(dice *rand.Rand) api.Object {
	var o api.Object
	v := reflect.ValueOf(&o).Elem()
	for i := range v.NumField() {
		l := values(v.Field(i).Kind())
		if dice.IntN(2) == 0 {
			v.Field(i).Set(reflect.ValueOf(l[dice.IntN(len(l))]))
		}
	}
	return o
}

// wrote gives what the elements are as bytes that put writes, without a number of elements.
func wrote[T comparable](s sort[T], l ...T) ([]byte, api.Errno) {
	var w octet.Writer
	for _, x := range l {
		s.put(&w, x)
	}
	return w.Bytes()
}

// refused holds that the bytes are those of no list.
func refused[T comparable](t *testing.T, s sort[T], what string, b []byte) {
	t.Helper()
	if l, e := s.read(b); l != nil || e != api.ErrCode {
		t.Fatalf("%s: %x is read as %v %v", what, b, l, e)
	}
}

// readAs holds that the bytes are those of that list.
func readAs[T comparable](t *testing.T, s sort[T], b []byte, want []T) {
	t.Helper()
	if l, e := s.read(b); !slices.Equal(l, want) || e != api.OK {
		t.Fatalf("%x is read as %v %v, not %v", b, l, e, want)
	}
}

// judged holds what the bytes are read as against the cursor.
func judged[T comparable](t *testing.T, s sort[T], b []byte) {
	t.Helper()
	c := cursor{rest: b}
	var want []T
	many := c.unsigned()
	for i := uint64(0); i < many && i < 65; i++ {
		want = append(want, s.plain(&c))
	}
	if c.bad || many > 64 || len(c.rest) > 0 || len(b) > octet.MaxBytes {
		refused(t, s, "by the cursor", b)
		return
	}
	readAs(t, s, b, want)
}

// P13.1: the chapter's examples, and others that were worked out by hand.
func TestPutExamples(t *testing.T) {
	m := api.Object{Handle: "m", Kind: api.KdMetric, Parent: "c", Lo: -1, Hi: 64, Digits: 2, Has: true, Value: 3}
	for _, x := range []struct {
		o api.Object
		b []byte
	}{
		{api.Object{}, []byte{0, 0, 0}},
		{api.Object{Handle: "d", Kind: api.KdMds}, []byte{1, 1, 'd', 0}},
		{api.Object{Handle: "v", Kind: api.KdVmd, Parent: "d"}, []byte{2, 1, 'v', 1, 1, 'd'}},
		{api.Object{Handle: "x", Kind: 200, Type: 9}, []byte{200, 1, 'x', 2, 9}},
		{api.Object{Ref: "ab"}, []byte{0, 0, 4, 2, 'a', 'b'}},
		{api.Object{Lo: -1}, []byte{0, 0, 8, 1}},
		{api.Object{Hi: 64}, []byte{0, 0, 16, 128, 1}},
		{api.Object{Digits: 6}, []byte{0, 0, 32, 6}},
		{api.Object{On: true}, []byte{0, 0, 64}},
		{api.Object{Has: true}, []byte{0, 0, 128, 1}},
		{api.Object{Value: -2}, []byte{0, 0, 128, 2, 3}},
		{api.Object{Low: 1}, []byte{0, 0, 128, 4, 2}},
		{api.Object{High: 2}, []byte{0, 0, 128, 8, 4}},
		{api.Object{Assoc: 3}, []byte{0, 0, 128, 16, 3}},
		{m, []byte{4, 1, 'm', 0xb9, 3, 1, 'c', 1, 128, 1, 2, 6}},
		{full(), []byte{4, 1, 'h', 255, 31, 2, 'p', 'p', 3, 3, 'r', '.', 'r', 1, 128, 1, 6, 216, 4, 223, 197, 8, 128, 128, 180, 204, 212, 223, 198, 3, 2}},
	} {
		if b, e := wrote(objectSort(), x.o); !bytes.Equal(b, x.b) || e != api.OK {
			t.Errorf("%v: %x %v, not %x", x.o, b, e, x.b)
		}
		if b, e := wrote(changeSort(), api.Change{Kind: api.CgDesc, O: x.o}); !bytes.Equal(b, append([]byte{2}, x.b...)) || e != api.OK {
			t.Errorf("a change of %v: %x %v", x.o, b, e)
		}
		n := api.Entry{Handle: "ab", There: true, O: x.o, Stamp: api.Stamp{Desc: 150, State: -3}}
		if b, e := wrote(entrySort(), n); !bytes.Equal(b, slices.Concat([]byte{2, 'a', 'b', 1}, x.b, []byte{172, 2, 5})) || e != api.OK {
			t.Errorf("an entry of %v: %x %v", x.o, b, e)
		}
	}
	if b, e := wrote(entrySort(), api.Entry{}); !bytes.Equal(b, make([]byte, 7)) || e != api.OK {
		t.Errorf("a zero entry: %x %v", b, e)
	}
}

func testPut[T comparable](t *testing.T, s sort[T]) {
	for _, x := range s.sample {
		var w octet.Writer
		w.Byte(77)
		s.put(&w, x)
		w.Text("on")
		want := slices.Concat([]byte{77}, plain(x), []byte{2, 'o', 'n'})
		if b, e := w.Bytes(); !bytes.Equal(b, want) || e != api.OK {
			t.Fatalf("%v: %x %v, not %x", x, b, e, want)
		}
	}
	for _, o := range tooLong() {
		if b, e := wrote(s, s.sample[0], s.with(o), s.sample[1]); b != nil || e != api.ErrLong {
			t.Fatalf("a string of more than 255 bytes: %d bytes, %v", len(b), e)
		}
	}
	s.put(nil, s.with(full()))
}

// P13.1: what is written is the encoding, whatever is written ahead of it and behind it; what is too long is not written.
func TestPut(t *testing.T) {
	testPut(t, objectSort())
	testPut(t, changeSort())
	testPut(t, entrySort())
	if b, e := wrote(entrySort(), api.Entry{Handle: strings.Repeat("h", 256)}); b != nil || e != api.ErrLong {
		t.Errorf("an entry of a long handle: %d bytes, %v", len(b), e)
	}
}

func testPutFull[T comparable](t *testing.T, s sort[T]) {
	x := s.with(full())
	many := len(plain(x))
	for left := range many + 3 {
		var w octet.Writer
		for range octet.MaxBytes - left {
			w.Byte(1)
		}
		s.put(&w, x)
		b, e := w.Bytes()
		switch {
		case left < many && (b != nil || e != api.ErrLong):
			t.Fatalf("%v, with room for %d bytes: %d bytes, %v", x, left, len(b), e)
		case left >= many && (!bytes.HasSuffix(b, plain(x)) || len(b) != octet.MaxBytes-left+many || e != api.OK):
			t.Fatalf("%v, with room for %d bytes: %d bytes, %v", x, left, len(b), e)
		}
	}
}

// P13.1: a writer has room for MaxBytes.
func TestPutFull(t *testing.T) {
	testPutFull(t, objectSort())
	testPutFull(t, changeSort())
	testPutFull(t, entrySort())
}

func testGet[T comparable](t *testing.T, s sort[T]) {
	for _, x := range s.sample {
		b := plain(x)
		r := octet.Read(slices.Concat([]byte{77}, b, []byte{99}))
		if r.Byte() != 77 {
			t.Fatal("the byte ahead")
		}
		if got := s.get(r); got != x || r.Left() != 1 || r.Failed() || r.Byte() != 99 || r.End() != api.OK {
			t.Fatalf("%x: %v, not %v; %d bytes are left", b, got, x, r.Left())
		}
	}
	b := plain(s.with(full()))
	for i := range b {
		r := octet.Read(b[:i])
		if s.get(r); !r.Failed() || r.End() != api.ErrCode {
			t.Fatalf("the first %d bytes of %x are enough", i, b)
		}
		s.get(r)
	}
	var zero octet.Reader
	if s.get(&zero); !zero.Failed() {
		t.Error("a zero reader is enough")
	}
	s.get(nil)
}

// P13.2: what is encoded so is read, and no byte behind it; too few bytes, and no reader, make no panic.
func TestGet(t *testing.T) {
	testGet(t, objectSort())
	testGet(t, changeSort())
	testGet(t, entrySort())
}

func testGetMask[T comparable](t *testing.T, s sort[T]) {
	fields := reflect.TypeFor[api.Object]().NumField() - firstField
	head, body := []byte{4, 1, 'h'}, []byte{2, 'p', 'p', 3, 1, 'd', 7}
	o := api.Object{Kind: 4, Handle: "h", Parent: "pp", Type: 3, Ref: "d", Lo: -4}
	masks := []uint64{0, math.MaxUint64 &^ (1<<fields - 1)}
	for i := fields; i < 64; i++ {
		masks = append(masks, 1<<i)
	}
	frame := bytes.Split(plain(s.with(full())), plainObject(full()))
	for _, beyond := range masks {
		b := slices.Concat(frame[0], binary.AppendUvarint(head, 15+beyond), body, frame[1])
		r := octet.Read(b)
		if got := s.get(r); got != s.with(o) || r.End() != api.OK {
			t.Fatalf("mask %x: %v", 15+beyond, got)
		}
		if b = append([]byte{1}, b...); beyond == 0 {
			readAs(t, s, b, []T{s.with(o)})
		} else {
			refused(t, s, "bits beyond the fields", b)
		}
	}
}

// P13.2, P13.4: bits of a mask beyond those of the fields have no effect where one element is read; but they stand in no list.
func TestMaskBeyond(t *testing.T) {
	testGetMask(t, objectSort())
	testGetMask(t, changeSort())
	testGetMask(t, entrySort())
}

// P13.2, P13.4: a bit of a field that is zero is read where one element is read; but it stands in no list.
func TestMaskOfZero(t *testing.T) {
	v := reflect.TypeFor[api.Object]()
	for i := firstField; i < v.NumField(); i++ {
		if v.Field(i).Type.Kind() == reflect.Bool {
			continue
		}
		b := append(binary.AppendUvarint([]byte{4, 1, 'h'}, 1<<(i-firstField)), 0)
		r := octet.Read(b)
		if got := GetObject(r); got != (api.Object{Kind: 4, Handle: "h"}) || r.End() != api.OK {
			t.Errorf("%s: %v", v.Field(i).Name, got)
		}
		refused(t, objectSort(), v.Field(i).Name, append([]byte{1}, b...))
		refused(t, changeSort(), v.Field(i).Name, append([]byte{1, 1}, b...))
		refused(t, entrySort(), v.Field(i).Name, slices.Concat([]byte{1, 1, 'h', 1}, b, []byte{0, 0}))
	}
}

func testList[T comparable](t *testing.T, s sort[T]) {
	for i, x := range s.sample {
		y := s.sample[len(s.sample)-1-i]
		for _, l := range [][]T{{x}, {x, y}, {y, x, x}} {
			kept := slices.Clone(l)
			b, e := s.list(l)
			if !bytes.Equal(b, plainList(kept)) || e != api.OK {
				t.Fatalf("%v: %x %v", l, b, e)
			}
			if !slices.Equal(l, kept) {
				t.Fatalf("%v was changed to %v", kept, l)
			}
		}
	}
	for _, l := range [][]T{nil, {}, s.sample[:0]} {
		if b, e := s.list(l); !bytes.Equal(b, []byte{0}) || e != api.OK {
			t.Errorf("no elements: %x %v", b, e)
		}
	}
	for _, many := range []int{1, 2, 63, 64, 65, 66, 128, 1000} {
		for _, x := range []T{s.sample[0], s.with(full())} {
			l := slices.Repeat([]T{x}, many)
			b, e := s.list(l)
			if many <= MaxRow && (!bytes.Equal(b, plainList(l)) || e != api.OK) || many > MaxRow && (b != nil || e != api.ErrLong) {
				t.Errorf("%d elements: %d bytes, %v", many, len(b), e)
			}
		}
	}
	for _, o := range tooLong() {
		for at := range 3 {
			l := slices.Clone(s.sample[:3])
			l[at] = s.with(o)
			if b, e := s.list(l); b != nil || e != api.ErrLong {
				t.Fatalf("a string of more than 255 bytes: %d bytes, %v", len(b), e)
			}
		}
	}
}

// P13.3: lists are written, of at most 64 elements.
func TestList(t *testing.T) {
	if MaxRow != 64 {
		t.Error(MaxRow)
	}
	testList(t, objectSort())
	testList(t, changeSort())
	testList(t, entrySort())
}

// P13.3, P13.4: a list of at most MaxBytes has an encoding; so have the longest lists of objects and of changes.
func TestListBytes(t *testing.T) {
	longestEntry := api.Entry{Handle: longest().Handle, There: true, O: longest(), Stamp: api.Stamp{Desc: math.MinInt64, State: math.MaxInt64}}
	if a, b := len(plain(longest())), len(plain(longestEntry)); a != 827 || b != 1105 {
		t.Fatal("the longest ones have other lengths", a, b)
	}
	l := slices.Repeat([]api.Object{longest()}, 64)
	readAs(t, objectSort(), plainList(l), l)
	set := slices.Repeat([]api.Change{{Kind: 255, O: longest()}}, 64)
	readAs(t, changeSort(), plainList(set), set)
	if b, e := Objects(l); !bytes.Equal(b, plainList(l)) || e != api.OK {
		t.Error(len(b), e)
	}
	if b, e := Set(set); !bytes.Equal(b, plainList(set)) || e != api.OK {
		t.Error(len(b), e)
	}
	long := slices.Repeat([]api.Entry{longestEntry}, 59)
	for n := range 256 {
		l := append(slices.Clone(long), api.Entry{Handle: strings.Repeat("a", n), O: api.Object{Handle: longest().Handle}})
		want := plainList(l)
		b, e := Entries(l)
		if len(want) > octet.MaxBytes {
			if b != nil || e != api.ErrLong {
				t.Fatalf("%d bytes: %d, %v", len(want), len(b), e)
			}
			refused(t, entrySort(), "too many bytes", want)
			continue
		}
		if !bytes.Equal(b, want) || e != api.OK {
			t.Fatalf("%d bytes: %d, %v", len(want), len(b), e)
		}
		readAs(t, entrySort(), want, l)
	}
	if n := len(plainList(long)) + len(plain(api.Entry{O: api.Object{Handle: longest().Handle}})); n > octet.MaxBytes || n+255 <= octet.MaxBytes {
		t.Error("none of these lists has MaxBytes", n)
	}
}

func testRead[T comparable](t *testing.T, s sort[T]) {
	for i, x := range s.sample {
		y := s.sample[len(s.sample)-1-i]
		for _, l := range [][]T{{x}, {x, y}, {y, y, x}} {
			readAs(t, s, plainList(l), l)
		}
	}
	for _, many := range []int{0, 1, 63, 64} {
		l := slices.Repeat([]T{s.with(full())}, many)
		b := plainList(l)
		readAs(t, s, b, l)
		refused(t, s, "a byte is left", append(slices.Clone(b), 0))
		refused(t, s, "an element is left", append(slices.Clone(b), plain(s.sample[0])...))
		refused(t, s, "an element is not there", append(binary.AppendUvarint(nil, uint64(many)+1), b[1:]...))
		refused(t, s, "a number with more bytes than it needs", append([]byte{128 + b[0], 0}, b[1:]...))
	}
	for _, many := range []int{65, 66, 127, 128, 1000} {
		refused(t, s, "more than 64", plainList(slices.Repeat([]T{s.sample[0]}, many)))
	}
	for _, many := range []uint64{65, 1 << 31, 1 << 32, 1 << 62, 1 << 63, math.MaxUint64} {
		refused(t, s, "more than there are", append(binary.AppendUvarint(nil, many), plain(s.sample[0])...))
	}
	refused(t, s, "no bytes", nil)
	refused(t, s, "no bytes", []byte{})
}

// P13.4: lists are read, and nothing else.
func TestRead(t *testing.T) {
	testRead(t, objectSort())
	testRead(t, changeSort())
	testRead(t, entrySort())
}

func testReadWrong[T comparable](t *testing.T, s sort[T]) {
	l := []T{s.with(full()), s.with(api.Object{Handle: "d", Kind: 1}), s.with(api.Object{Value: 1000, On: true})}
	b := plainList(l)
	for i := range b {
		refused(t, s, "cut", b[:i])
		judged(t, s, b[i+1:])
		for n := range 256 {
			other := slices.Clone(b)
			other[i] = byte(n)
			judged(t, s, other)
			judged(t, s, slices.Insert(slices.Clone(b), i, byte(n)))
		}
		judged(t, s, slices.Delete(slices.Clone(b), i, i+1))
	}
}

// P13.4: a list that is cut, or has another byte anywhere, or one more, or one less, is read as the cursor reads it.
func TestReadWrong(t *testing.T) {
	testReadWrong(t, objectSort())
	testReadWrong(t, changeSort())
	testReadWrong(t, entrySort())
}

// short calls do with all rows of so many bytes from those given, behind head.
func short(head, from []byte, many int, do func(b []byte)) {
	do(slices.Clone(head))
	if many == 0 {
		return
	}
	for _, x := range from {
		short(append(slices.Clone(head), x), from, many-1, do)
	}
}

// P13.4, P13.5: all short rows of some bytes.
func TestReadShort(t *testing.T) {
	o, c, n := objectSort(), changeSort(), entrySort()
	short(nil, []byte{0, 1, 2, 8, 64, 128}, 6, func(b []byte) {
		judged(t, o, b)
		judged(t, c, b)
	})
	short([]byte{1}, []byte{0, 1, 2, 128}, 8, func(b []byte) {
		judged(t, n, b)
	})
	for _, s := range []string{"\x01\x01\x01h\xc0", "\x01\x01\x01h\xc0\x00", "\x01\x01\x01h\x80\x01", "\x01\x01\x01h\xc0\x01", "\x01\x01\x01h\x40\x01"} {
		judged(t, o, []byte(s))
	}
	for there := range 256 {
		judged(t, n, []byte{1, 1, 'h', byte(there), 1, 0, 0, 0, 0})
	}
}

func testReadNumbers[T comparable](t *testing.T, s sort[T]) {
	frame := bytes.Split(plain(s.with(full())), plainObject(full()))
	for _, o := range []string{
		"\x01\x81\x00h\x00",      // the length of the handle
		"\x01\x01h\x80\x00",      // the mask
		"\x01\x01h\x81\x00\x01p", // the mask
		"\x01\x01h\x01\x81\x00p", // the length of the parent
		"\x01\x01h\x08\x82\x00",  // Lo
		"\x01\x01h\x08\xff\xff\xff\xff\xff\xff\xff\xff\xff\x02",     // Lo, of more than 64 bits
		"\x01\x01h\x08\xff\xff\xff\xff\xff\xff\xff\xff\xff\x81\x00", // Lo, of 11 bytes
		"\x01\x80\x02" + strings.Repeat("h", 256) + "\x00",
		"\x01\x01h\x04\x80\x02" + strings.Repeat("r", 256),
	} {
		refused(t, s, "a number or a string that is none", slices.Concat([]byte{1}, frame[0], []byte(o), frame[1]))
	}
	good := "\x01\x01h\x08\xff\xff\xff\xff\xff\xff\xff\xff\xff\x01"
	readAs(t, s, slices.Concat([]byte{1}, frame[0], []byte(good), frame[1]), []T{s.with(api.Object{Kind: 1, Handle: "h", Lo: math.MinInt64})})
}

// P13.4: numbers with more bytes than they need, numbers that are too great, strings that are too long, truth values above 1.
func TestReadNumbers(t *testing.T) {
	testReadNumbers(t, objectSort())
	testReadNumbers(t, changeSort())
	testReadNumbers(t, entrySort())
	for _, s := range []string{"\x01\x81\x00h\x00\x00\x00\x00\x00\x00", "\x01\x01h\x00\x00\x00\x00\x82\x00\x00", "\x01\x01h\x00\x00\x00\x00\x00\x82\x00", "\x01\x01h\x02\x00\x00\x00\x00\x00", "\x01\x01h\xff\x00\x00\x00\x00\x00"} {
		refused(t, entrySort(), "an entry", []byte(s))
	}
	readAs(t, entrySort(), []byte("\x01\x01h\x00\x00\x00\x00\x00\x00"), []api.Entry{{Handle: "h"}})
}

func testRoundTrip[T comparable](t *testing.T, s sort[T], any func(dice *rand.Rand) T) {
	dice := rand.New(rand.NewPCG(12, 34))
	for range 1500 {
		l := make([]T, dice.IntN(8)*dice.IntN(5))
		for i := range l {
			l[i] = any(dice)
		}
		b, e := s.list(l)
		if !bytes.Equal(b, plainList(l)) || e != api.OK {
			t.Fatalf("%v: %x %v", l, b, e)
		}
		readAs(t, s, b, l)
		got, _ := s.read(b)
		if again, e := s.list(got); !bytes.Equal(again, b) || e != api.OK {
			t.Fatalf("%x was read, and is written as %x %v", b, again, e)
		}
		for range 8 {
			other := slices.Clone(b)
			other[dice.IntN(len(b))] = byte(dice.IntN(256))
			got, e := s.read(other[:len(b)-dice.IntN(2)])
			if again, _ := s.list(got); e == api.OK && !bytes.HasPrefix(other, again) {
				t.Fatalf("%x was read, and is written as %x", other, again)
			}
			judged(t, s, other)
		}
	}
}

// P13.5: what has an encoding is read back from it, and the encoding of what was read is the input.
func TestRoundTrip(t *testing.T) {
	testRoundTrip(t, objectSort(), anyObject)
	testRoundTrip(t, changeSort(), func(dice *rand.Rand) api.Change {
		return api.Change{Kind: uint8(dice.IntN(256)), O: anyObject(dice)}
	})
	testRoundTrip(t, entrySort(), func(dice *rand.Rand) api.Entry {
		stamp := api.Stamp{Desc: dice.IntN(1000) - 500, State: int(dice.Int64()) >> dice.IntN(64)}
		return api.Entry{Handle: anyObject(dice).Handle, There: dice.IntN(2) == 0, O: anyObject(dice), Stamp: stamp}
	})
}

// getRow reads a number of elements, and these.
func getRow[T comparable](s sort[T], r *octet.Reader) []T {
	var l []T
	for range r.Uint() {
		l = append(l, s.get(r))
	}
	return l
}

func testConcat[T comparable](t *testing.T, s sort[T]) {
	for i := range len(s.sample) - 6 {
		one, two := s.sample[i:i+i%4], s.sample[i+2:i+2+i%5]
		both := slices.Concat(one, two)
		b, e := wrote(s, both...)
		if e != api.OK {
			t.Fatal(e)
		}
		r := octet.Read(b)
		for _, x := range both {
			if got := s.get(r); got != x {
				t.Fatalf("%v, not %v", got, x)
			}
		}
		if r.End() != api.OK {
			t.Fatal("bytes are left")
		}
		a, _ := s.list(one)
		b, _ = s.list(two)
		r = octet.Read(slices.Concat(a, b))
		if !slices.Equal(getRow(s, r), one) || !slices.Equal(getRow(s, r), two) || r.End() != api.OK {
			t.Fatalf("%v and then %v", one, two)
		}
		refused(t, s, "two lists", slices.Concat(a, b))
	}
}

// P13.6: the elements of two lists, read one after the other, are those that were written.
func TestConcat(t *testing.T) {
	testConcat(t, objectSort())
	testConcat(t, changeSort())
	testConcat(t, entrySort())
	o, c, n := full(), api.Change{Kind: 1, O: full()}, api.Entry{Handle: "n", O: full()}
	var w octet.Writer
	PutEntry(&w, n)
	PutObject(&w, o)
	PutChange(&w, c)
	PutObject(&w, api.Object{})
	b, _ := w.Bytes()
	r := octet.Read(b)
	if GetEntry(r) != n || GetObject(r) != o || GetChange(r) != c || GetObject(r) != (api.Object{}) || r.End() != api.OK {
		t.Error("elements of all types, one after the other")
	}
}

func testOwn[T comparable](t *testing.T, s sort[T]) {
	l := []T{s.with(full()), s.with(longest())}
	kept := slices.Clone(l)
	b, _ := s.list(l)
	want := slices.Clone(b)
	l[0], l[1] = s.sample[0], s.sample[0]
	if again, _ := s.list(kept); !bytes.Equal(b, want) || !bytes.Equal(again, want) || &again[0] == &b[0] {
		t.Error("the bytes are not new memory")
	}
	one, _ := s.read(b)
	two, _ := s.read(b)
	if !bytes.Equal(b, want) {
		t.Error("the bytes that were read are changed")
	}
	clear(b)
	if !slices.Equal(one, kept) || &one[0] == &two[0] {
		t.Error("the list that was read hangs on its bytes")
	}
	one[0] = s.sample[0]
	if !slices.Equal(two, kept) {
		t.Error("two lists share their elements")
	}
}

// P13.3, P13.4: bytes and lists that are handed in are not changed and not kept, and what is handed out is new.
func TestOwn(t *testing.T) {
	testOwn(t, objectSort())
	testOwn(t, changeSort())
	testOwn(t, entrySort())
}
