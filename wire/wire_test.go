package wire

import (
	"bytes"
	"encoding/binary"
	"math"
	"math/rand/v2"
	"reflect"
	"slices"
	"strings"
	"testing"

	"bedside/api"
	"bedside/octet"
	"bedside/record"
)

// page gathers an encoding in another way than the package does.
type page []byte

func (p page) bytes(l ...byte) page  { return append(p, l...) }
func (p page) unsigned(n int) page   { return binary.AppendUvarint(p, uint64(n)) }
func (p page) signed(n int64) page   { return binary.AppendVarint(p, n) }
func (p page) text(s string) page    { return append(p.unsigned(len(s)), s...) }
func (p page) behind(l ...page) page { return append(p, slices.Concat(l...)...) }

func (p page) truth(b bool) page {
	if b {
		return append(p, 1)
	}
	return append(p, 0)
}

// firstField is the place of Parent among the fields of api.Object.
const firstField = 2

// object adds an object's encoding, by the names and the order of api's fields.
func (p page) object(o api.Object) page {
	var body page
	mask := 0
	v := reflect.ValueOf(o)
	for i := firstField; i < v.NumField(); i++ {
		f := v.Field(i)
		if f.IsZero() {
			continue
		}
		mask += 1 << (i - firstField)
		switch f.Kind() {
		case reflect.String:
			body = body.text(f.String())
		case reflect.Uint8:
			body = body.bytes(byte(f.Uint()))
		case reflect.Int64:
			body = body.signed(f.Int())
		}
	}
	return p.bytes(o.Kind).text(o.Handle).unsigned(mask).behind(body)
}

func plainRequest(q api.Request) page {
	p := page{113, q.Kind}.text(q.Handle).unsigned(len(q.Handles))
	for _, h := range q.Handles {
		p = p.text(h)
	}
	p = p.bytes(q.Change.Kind).object(q.Change.O)
	return p.bytes(q.Op).signed(q.Low).signed(q.High).truth(q.On).bytes(q.Assoc).signed(int64(q.Expect)).unsigned(int(q.Mask))
}

func plainReport(r api.Report) page {
	p := page{114}.signed(int64(r.Version)).unsigned(len(r.Changes))
	for _, c := range r.Changes {
		p = p.bytes(c.Kind).object(c.O)
	}
	return p.truth(r.Gap)
}

func plainReply(r api.Reply) page {
	p := page{112}.signed(int64(r.Err)).signed(int64(r.Version)).unsigned(len(r.Entries))
	for _, n := range r.Entries {
		p = p.text(n.Handle).truth(n.There).object(n.O).signed(int64(n.Stamp.Desc)).signed(int64(n.Stamp.State))
	}
	return p.behind(plainReport(r.Report)).bytes(r.State)
}

// cursor reads encodings in another way than the package does; whatever is never written is bad.
type cursor struct {
	rest []byte
	bad  bool
}

func (c *cursor) must(so bool) {
	c.bad = c.bad || !so
}

func (c *cursor) take(n int) []byte {
	if c.must(n <= len(c.rest)); c.bad {
		return make([]byte, n)
	}
	l := c.rest[:n]
	c.rest = c.rest[n:]
	return l
}

func (c *cursor) octet() byte { return c.take(1)[0] }

// unsigned reads a number of at most that size.
func (c *cursor) unsigned(most uint64) uint64 {
	n, many := binary.Uvarint(c.rest)
	c.must(many > 0 && n <= most)
	if c.bad || len(binary.AppendUvarint(nil, n)) != many {
		c.bad = true
		return 0
	}
	c.take(many)
	return n
}

func (c *cursor) signed() int64 {
	n, _ := binary.Varint(binary.AppendUvarint(nil, c.unsigned(math.MaxUint64)))
	return n
}

func (c *cursor) text() string {
	return string(c.take(int(c.unsigned(255))))
}

func (c *cursor) truth() bool {
	b := c.octet()
	c.must(b <= 1)
	return b == 1
}

func (c *cursor) object() api.Object {
	o := api.Object{Kind: c.octet(), Handle: c.text()}
	mask := c.unsigned(1<<12 - 1)
	v := reflect.ValueOf(&o).Elem()
	for i := firstField; i < v.NumField(); i++ {
		f := v.Field(i)
		if mask>>(i-firstField)%2 == 0 {
			continue
		}
		switch f.Kind() {
		case reflect.String:
			f.SetString(c.text())
		case reflect.Uint8:
			f.SetUint(uint64(c.octet()))
		case reflect.Int64:
			f.SetInt(c.signed())
		case reflect.Bool:
			f.SetBool(true)
		}
		c.must(!f.IsZero())
	}
	return o
}

func (c *cursor) change() api.Change {
	return api.Change{Kind: c.octet(), O: c.object()}
}

func (c *cursor) entry() api.Entry {
	n := api.Entry{Handle: c.text(), There: c.truth(), O: c.object()}
	n.Stamp.Desc = int(c.signed())
	n.Stamp.State = int(c.signed())
	return n
}

func (c *cursor) request() api.Request {
	c.must(c.octet() == 113)
	q := api.Request{Kind: c.octet(), Handle: c.text()}
	for range c.unsigned(64) {
		q.Handles = append(q.Handles, c.text())
	}
	q.Change = c.change()
	q.Op = c.octet()
	q.Low = c.signed()
	q.High = c.signed()
	q.On = c.truth()
	q.Assoc = c.octet()
	q.Expect = int(c.signed())
	q.Mask = uint16(c.unsigned(65535))
	return q
}

func (c *cursor) report() api.Report {
	c.must(c.octet() == 114)
	p := api.Report{Version: int(c.signed())}
	for range c.unsigned(64) {
		p.Changes = append(p.Changes, c.change())
	}
	p.Gap = c.truth()
	return p
}

func (c *cursor) reply() api.Reply {
	c.must(c.octet() == 112)
	p := api.Reply{Err: api.Errno(c.signed())}
	p.Version = int(c.signed())
	for range c.unsigned(64) {
		p.Entries = append(p.Entries, c.entry())
	}
	p.Report = c.report()
	p.State = c.octet()
	return p
}

// alike tells whether the values are equal in another way than the package does: a nil list is equal to an empty one.
func alike(a, b reflect.Value) bool {
	switch a.Kind() {
	case reflect.Struct:
		for i := range a.NumField() {
			if !alike(a.Field(i), b.Field(i)) {
				return false
			}
		}
		return true
	case reflect.Slice:
		if a.Len() != b.Len() {
			return false
		}
		for i := range a.Len() {
			if !alike(a.Index(i), b.Index(i)) {
				return false
			}
		}
		return true
	}
	return a.Interface() == b.Interface()
}

func equal[T any](a, b T) bool {
	return alike(reflect.ValueOf(a), reflect.ValueOf(b))
}

// sort is what the package has for one type, and what its answers are held against.
type sort[T any] struct {
	write  func(x T) ([]byte, api.Errno)
	read   func(b []byte) (T, api.Errno)
	plain  func(x T) page
	cursor func(c *cursor) T
	full   func() T // one of which no field is zero, in memory of its own
}

func requestSort() sort[api.Request] {
	return sort[api.Request]{Request, ReadRequest, plainRequest, (*cursor).request, fullRequest}
}

func reportSort() sort[api.Report] {
	return sort[api.Report]{Report, ReadReport, plainReport, (*cursor).report, fullReport}
}

func replySort() sort[api.Reply] {
	return sort[api.Reply]{Reply, ReadReply, plainReply, (*cursor).reply, fullReply}
}

func fullObject() api.Object {
	return api.Object{Handle: "h", Kind: 4, Parent: "pp", Type: 3, Ref: "r.r", Lo: -1, Hi: 64, Digits: 6, On: true, Has: true, Value: 300, Low: -70000, High: 99, Assoc: 2}
}

func fullRequest() api.Request {
	return api.Request{Kind: api.RqSet, Handle: "hh", Handles: []string{"a", "", "bcd"}, Change: api.Change{Kind: api.CgState, O: fullObject()}, Op: api.OpLimits, Low: -2, High: 700, On: true, Assoc: 3, Expect: 4, Mask: 300}
}

func fullReport() api.Report {
	return api.Report{Version: 200, Changes: []api.Change{{Kind: api.CgCreate, O: fullObject()}, {Kind: api.CgDelete, O: api.Object{Handle: "d"}}}, Gap: true}
}

func fullReply() api.Reply {
	return api.Reply{Err: api.ErrGone, Version: 3, Entries: []api.Entry{{Handle: "h", There: true, O: fullObject(), Stamp: api.Stamp{Desc: 150, State: -3}}, {}}, Report: fullReport(), State: api.IvFailed}
}

// longestObject is the object with the longest encoding: it has 827 bytes.
func longestObject() api.Object {
	s := strings.Repeat("s", 255)
	return api.Object{Handle: s, Kind: 255, Parent: s, Type: 255, Ref: s, Lo: math.MinInt64, Hi: math.MaxInt64, Digits: 255, On: true, Has: true, Value: math.MinInt64, Low: math.MinInt64, High: math.MaxInt64, Assoc: 255}
}

func longestEntry() api.Entry {
	o := longestObject()
	return api.Entry{Handle: o.Handle, There: true, O: o, Stamp: api.Stamp{Desc: math.MinInt64, State: math.MaxInt64}}
}

// numbers gives what fields of integers are set to, as far as they fit.
func numbers() []int64 {
	return []int64{0, 1, -1, 2, 3, 4, 11, 12, 62, 63, 64, -64, -65, 127, 128, 255, 256, 300, 320, 999, 8191, 8192, 16383, 16384, 65535, api.MaxNumber, -api.MaxNumber, math.MaxInt64, math.MinInt64}
}

func texts() []string {
	l := []string{"", "a", "\x00", "\xff\xfe", "a b\n", "Ω"}
	for _, n := range []int{2, 16, 17, 127, 128, 254, 255} {
		l = append(l, strings.Repeat("x", n))
	}
	return l
}

// lists gives lists of no, one, 64 and some other numbers of elements.
func lists[T any](l ...T) []any {
	all := []any{[]T(nil), []T{}, l[:1], l[1:], l}
	for _, many := range []int{2, 63, 64} {
		all = append(all, slices.Repeat(l[:1], many))
	}
	return all
}

// values gives what a field of that type is set to: its least and its greatest value, and some between; it is nothing for a struct.
func values(of reflect.Type) []any {
	var l []any
	switch of {
	case reflect.TypeFor[[]string]():
		return append(lists("a", "", "bc"), lists(texts()...)...)
	case reflect.TypeFor[[]api.Change]():
		return append(lists(fullReport().Changes...), lists(api.Change{}, api.Change{Kind: 255, O: longestObject()})...)
	case reflect.TypeFor[[]api.Entry]():
		return append(lists(fullReply().Entries...), lists(api.Entry{}, longestEntry(), api.Entry{There: true})...)
	}
	switch of.Kind() {
	case reflect.String:
		for _, s := range texts() {
			l = append(l, s)
		}
	case reflect.Bool:
		l = append(l, false, true)
	case reflect.Uint8, reflect.Uint16, reflect.Int, reflect.Int64:
		for _, n := range numbers() {
			if v := reflect.ValueOf(n).Convert(of); v.Convert(reflect.TypeFor[int64]()).Int() == n {
				l = append(l, v.Interface())
			}
		}
	}
	return l
}

// fields gives what sets each field, also those of the structs within, to each of its values.
func fields(of reflect.Type, at func(v reflect.Value) reflect.Value) []func(v reflect.Value) {
	var l []func(v reflect.Value)
	for i := range of.NumField() {
		here := func(v reflect.Value) reflect.Value { return at(v).Field(i) }
		if of.Field(i).Type.Kind() == reflect.Struct {
			l = append(l, fields(of.Field(i).Type, here)...)
			continue
		}
		for _, x := range values(of.Field(i).Type) {
			l = append(l, func(v reflect.Value) { here(v).Set(reflect.ValueOf(x).Convert(here(v).Type())) })
		}
	}
	return l
}

// samples gives values with no field, each field alone, all of them, and all with one of another value.
func samples[T any](s sort[T]) []T {
	var zero T
	l := []T{zero, s.full()}
	for _, set := range fields(reflect.TypeFor[T](), func(v reflect.Value) reflect.Value { return v }) {
		var alone T
		all := s.full()
		set(reflect.ValueOf(&alone).Elem())
		set(reflect.ValueOf(&all).Elem())
		l = append(l, alone, all)
	}
	return l
}

// throw sets some of the fields, also of the elements of lists, to any of their values.
func throw(dice *rand.Rand, v reflect.Value) {
	for i := range v.NumField() {
		f := v.Field(i)
		l := values(f.Type())
		switch {
		case f.Kind() == reflect.Struct:
			throw(dice, f)
		case dice.IntN(2) == 0:
			f.SetZero()
		case f.Kind() == reflect.Slice && f.Type().Elem().Kind() == reflect.Struct:
			f.Set(reflect.MakeSlice(f.Type(), dice.IntN(4), 4))
			for j := range f.Len() {
				throw(dice, f.Index(j))
			}
		default:
			f.Set(reflect.ValueOf(l[dice.IntN(len(l))]).Convert(f.Type()))
		}
	}
}

// thrown gives any one.
func thrown[T any](dice *rand.Rand, _ sort[T]) T {
	var x T
	throw(dice, reflect.ValueOf(&x).Elem())
	return x
}

// written holds that the encoding of x is the plain one, if it is not too long.
func written[T any](t *testing.T, s sort[T], x T) {
	t.Helper()
	want := s.plain(x)
	b, e := s.write(x)
	switch {
	case len(want) > octet.MaxBytes && (b != nil || e != api.ErrLong):
		t.Fatalf("%d bytes: %d, %v", len(want), len(b), e)
	case len(want) <= octet.MaxBytes && (!bytes.Equal(b, want) || e != api.OK):
		t.Fatalf("%v: %x %v, not %x", x, b, e, want)
	}
}

// unwritten holds that x has no encoding.
func unwritten[T any](t *testing.T, s sort[T], x T) {
	t.Helper()
	if b, e := s.write(x); b != nil || e != api.ErrLong {
		t.Fatalf("%T: %d bytes, %v", x, len(b), e)
	}
}

// readAs holds that the bytes are the encoding of want.
func readAs[T any](t *testing.T, s sort[T], b []byte, want T) {
	t.Helper()
	if x, e := s.read(b); !equal(x, want) || e != api.OK {
		t.Fatalf("%x is read as %v %v, not %v", b, x, e, want)
	}
}

// refused holds that the bytes are no encoding.
func refused[T any](t *testing.T, s sort[T], what string, b []byte) {
	t.Helper()
	if x, e := s.read(b); !reflect.ValueOf(x).IsZero() || e != api.ErrCode {
		t.Fatalf("%s: %x is read as %v %v", what, b, x, e)
	}
}

// judgedBy holds what the bytes are read as against the cursor, and tells whether they are an encoding.
func judgedBy[T any](t *testing.T, s sort[T], b []byte) bool {
	t.Helper()
	c := cursor{rest: b}
	want := s.cursor(&c)
	if c.bad || len(c.rest) > 0 || len(b) > octet.MaxBytes {
		refused(t, s, "by the cursor", b)
		return false
	}
	readAs(t, s, b, want)
	return true
}

// judged holds that the bytes are read as what they are, by at most one of the three.
func judged(t *testing.T, b []byte) int {
	t.Helper()
	many := 0
	for _, so := range []bool{judgedBy(t, requestSort(), b), judgedBy(t, reportSort(), b), judgedBy(t, replySort(), b)} {
		if so {
			many++
		}
	}
	if many > 1 {
		t.Fatalf("%x is read as %d things", b, many)
	}
	return many
}

// P14.1, P14.2: the chapter's example, and others that were worked out by hand.
func TestExamples(t *testing.T) {
	d := api.Object{Handle: "d", Kind: api.KdMds}
	for _, x := range []struct {
		q api.Request
		s string
	}{
		{api.Request{}, "q" + strings.Repeat("\x00", 14)},
		{api.Request{Kind: api.RqBegin}, "q\x01" + strings.Repeat("\x00", 13)},
		{api.Request{Kind: api.RqRead, Handle: "ab"}, "q\x02\x02ab" + strings.Repeat("\x00", 12)},
		{api.Request{Kind: api.RqSnap, Handles: []string{"a", "bc"}}, "q\x06\x00\x02\x01a\x02bc" + strings.Repeat("\x00", 11)},
		{api.Request{Handles: []string{"", ""}}, "q\x00\x00\x02\x00\x00" + strings.Repeat("\x00", 11)},
		{api.Request{Kind: api.RqWrite, Change: api.Change{Kind: api.CgCreate, O: d}}, "q\x03\x00\x00\x01\x01\x01d\x00" + strings.Repeat("\x00", 7)},
		{api.Request{Op: 5, Low: -1, High: 64, On: true, Assoc: 6, Expect: -3, Mask: 65535}, "q\x00\x00\x00\x00\x00\x00\x00\x05\x01\x80\x01\x01\x06\x05\xff\xff\x03"},
	} {
		written(t, requestSort(), x.q)
		readAs(t, requestSort(), []byte(x.s), x.q)
		if b, e := Request(x.q); string(b) != x.s || e != api.OK {
			t.Errorf("%v: %x %v", x.q, b, e)
		}
	}
	for _, x := range []struct {
		p api.Report
		s string
	}{
		{api.Report{}, "r\x00\x00\x00"},
		{api.Report{Version: 3}, "r\x06\x00\x00"},
		{api.Report{Version: -1, Gap: true}, "r\x01\x00\x01"},
		{api.Report{Changes: []api.Change{{Kind: api.CgCreate, O: d}, {}}}, "r\x00\x02\x01\x01\x01d\x00\x00\x00\x00\x00\x00"},
	} {
		readAs(t, reportSort(), []byte(x.s), x.p)
		if b, e := Report(x.p); string(b) != x.s || e != api.OK {
			t.Errorf("%v: %x %v", x.p, b, e)
		}
		r := api.Reply{Report: x.p, State: 4}
		readAs(t, replySort(), []byte("p\x00\x00\x00"+x.s+"\x04"), r)
		if b, e := Reply(r); string(b) != "p\x00\x00\x00"+x.s+"\x04" || e != api.OK {
			t.Errorf("%v: %x %v", r, b, e)
		}
	}
	p := api.Reply{Err: api.ErrGone, Version: -2, Entries: []api.Entry{{Handle: "ab", There: true, O: d, Stamp: api.Stamp{Desc: 2, State: -2}}}}
	if b, e := Reply(p); string(b) != "p\xc0\x02\x03\x01\x02ab\x01\x01\x01d\x00\x04\x03r\x00\x00\x00\x00" || e != api.OK {
		t.Errorf("%v: %x %v", p, b, e)
	}
}

func testWrite[T any](t *testing.T, s sort[T]) {
	for _, x := range samples(s) {
		written(t, s, x)
	}
}

// P14.1: what is written is the encoding: no field set, each field alone at its least and its greatest value, all of them; lists of up to 64 elements; texts of up to 255 bytes.
func TestWrite(t *testing.T) {
	testWrite(t, requestSort())
	testWrite(t, reportSort())
	testWrite(t, replySort())
}

// P14.1: lists of more than 64 elements have no encoding, whatever they are of.
func TestWriteRows(t *testing.T) {
	for _, many := range []int{65, 66, 127, 128, 1000, 70000} {
		unwritten(t, requestSort(), api.Request{Handles: make([]string, many)})
		unwritten(t, reportSort(), api.Report{Changes: make([]api.Change, many)})
		unwritten(t, replySort(), api.Reply{Entries: make([]api.Entry, many)})
		unwritten(t, replySort(), api.Reply{Report: api.Report{Changes: make([]api.Change, many)}})
		unwritten(t, replySort(), api.Reply{Entries: make([]api.Entry, 64), Report: api.Report{Changes: make([]api.Change, many)}})
		unwritten(t, replySort(), api.Reply{Entries: make([]api.Entry, many), Report: api.Report{Changes: make([]api.Change, 64)}})
	}
	written(t, replySort(), api.Reply{Entries: make([]api.Entry, 64), Report: api.Report{Changes: make([]api.Change, 64)}})
}

// P14.1: a text of more than 255 bytes has no encoding, wherever it stands.
func TestWriteTexts(t *testing.T) {
	for _, many := range []int{256, 257, 300, 16384, 70000} {
		s := strings.Repeat("s", many)
		unwritten(t, requestSort(), api.Request{Handle: s})
		for at := range 64 {
			l := make([]string, 64)
			l[at] = s
			unwritten(t, requestSort(), api.Request{Handles: l})
		}
		for _, o := range []api.Object{{Handle: s}, {Handle: "a", Parent: s}, {Handle: "a", Ref: s}} {
			c := api.Change{Kind: api.CgCreate, O: o}
			unwritten(t, requestSort(), api.Request{Change: c})
			unwritten(t, reportSort(), api.Report{Changes: []api.Change{c}})
			unwritten(t, reportSort(), api.Report{Changes: []api.Change{{}, c, {}}})
			unwritten(t, replySort(), api.Reply{Report: api.Report{Changes: []api.Change{{}, c}}})
			unwritten(t, replySort(), api.Reply{Entries: []api.Entry{{}, {Handle: "a", O: o}}})
		}
		unwritten(t, replySort(), api.Reply{Entries: []api.Entry{{Handle: s}, {}}})
	}
}

// P14.1, P14.2, P14.5: an encoding has at most MaxBytes; requests and reports never have more.
func TestBytes(t *testing.T) {
	long := strings.Repeat("s", 255)
	c := api.Change{Kind: 255, O: longestObject()}
	q := api.Request{Kind: 255, Handle: long, Handles: slices.Repeat([]string{long}, 64), Change: c, Op: 255, Low: math.MinInt64, High: math.MaxInt64, On: true, Assoc: 255, Expect: math.MinInt64, Mask: 65535}
	r := api.Report{Version: math.MinInt64, Changes: slices.Repeat([]api.Change{c}, 64), Gap: true}
	for _, n := range []int{len(plainRequest(q)), len(plainReport(r))} {
		if n < 10000 || n > octet.MaxBytes {
			t.Fatal(n)
		}
	}
	written(t, requestSort(), q)
	readAs(t, requestSort(), plainRequest(q), q)
	written(t, reportSort(), r)
	readAs(t, reportSort(), plainReport(r), r)
	seen := map[int]int{}
	for _, p := range []api.Reply{{}, {Err: 300}, {Version: -70000}, {State: 4}, {Report: api.Report{Version: 64}}} {
		for n := range 256 {
			last := api.Entry{Handle: long[:n], O: api.Object{Handle: long}}
			p.Entries = append(slices.Repeat([]api.Entry{longestEntry()}, 59), last)
			seen[testBytes(t, p)]++
			both := p
			both.Report.Changes = r.Changes
			both.Entries = slices.Concat(p.Entries[:11], []api.Entry{last})
			seen[testBytes(t, both)]++
		}
	}
	for _, over := range []int{-1, 0, 1, 2} {
		if seen[over] < 8 {
			t.Error("too few replies had so many bytes more than MaxBytes:", over, seen[over])
		}
	}
}

// testBytes holds what is near to MaxBytes, and gives by how much it is more.
func testBytes(t *testing.T, p api.Reply) int {
	t.Helper()
	b := plainReply(p)
	over := len(b) - octet.MaxBytes
	switch {
	case (over < -1 || over > 2) && over%90 != 0:
		return over
	case over > 0:
		refused(t, replySort(), "too many bytes", b)
	default:
		readAs(t, replySort(), b, p)
	}
	written(t, replySort(), p)
	return over
}

func testRead[T any](t *testing.T, s sort[T]) {
	for _, x := range samples(s) {
		b := s.plain(x)
		if len(b) > octet.MaxBytes {
			refused(t, s, "too many bytes", b)
			continue
		}
		readAs(t, s, b, x)
		refused(t, s, "a byte is left", append(slices.Clone(b), 0))
		refused(t, s, "another one is left", append(slices.Clone(b), b...))
		refused(t, s, "a byte is missing", b[:len(b)-1])
		judgedBy(t, s, append([]byte{b[0]}, b...))
		judgedBy(t, s, b[1:])
	}
	refused(t, s, "no bytes", nil)
	refused(t, s, "no bytes", []byte{})
}

// P14.2: what is encoded is read, and not with a byte less or more.
func TestRead(t *testing.T) {
	testRead(t, requestSort())
	testRead(t, reportSort())
	testRead(t, replySort())
}

func testReadAltered[T any](t *testing.T, s sort[T]) {
	var zero T
	for _, x := range []T{zero, s.full()} {
		b := s.plain(x)
		for i := range b {
			refused(t, s, "too few bytes", b[:i])
			for n := range 256 {
				judged(t, slices.Concat(b[:i], []byte{byte(n)}, b[i+1:]))
			}
			for _, n := range []byte{0, 1, 2, 63, 64, 65, 112, 113, 114, 127, 128, 255} {
				judged(t, slices.Concat(b[:i], []byte{n}, b[i:]))
			}
			judged(t, slices.Concat(b[:i], b[i+1:]))
			judged(t, slices.Concat(b[:i], []byte{128 | b[i], 0}, b[i+1:]))
			judged(t, slices.Concat(b[:i], []byte{128 | b[i], 128, 0}, b[i+1:]))
			judged(t, slices.Concat(b[:i], []byte{128 | b[i], 1}, b[i+1:]))
		}
		for n := range 256 {
			if byte(n) != b[0] {
				refused(t, s, "another first byte", append([]byte{byte(n)}, b[1:]...))
			}
		}
	}
}

// P14.2, P14.6: encodings that are cut or altered at any place are read as what they are then.
func TestReadAltered(t *testing.T) {
	testReadAltered(t, requestSort())
	testReadAltered(t, reportSort())
	testReadAltered(t, replySort())
}

// P14.2: numbers of elements above 64, above what follows, and with more bytes than they need.
func TestReadRows(t *testing.T) {
	for _, many := range []int{0, 1, 2, 63, 64, 65, 66, 127, 128, 1000} {
		q := api.Request{Kind: 6, Handles: make([]string, many)}
		r := api.Report{Version: 7, Changes: make([]api.Change, many)}
		p := api.Reply{Version: 7, Entries: make([]api.Entry, many)}
		in := api.Reply{Version: 7, Report: r}
		if many > record.MaxRow {
			refused(t, requestSort(), "too many", plainRequest(q))
			refused(t, reportSort(), "too many", plainReport(r))
			refused(t, replySort(), "too many", plainReply(p))
			refused(t, replySort(), "too many", plainReply(in))
			continue
		}
		readAs(t, requestSort(), plainRequest(q), q)
		readAs(t, reportSort(), plainReport(r), r)
		readAs(t, replySort(), plainReply(p), p)
		readAs(t, replySort(), plainReply(in), in)
	}
	for _, many := range []uint64{1, 2, 64, 65, 1 << 31, 1 << 32, 1 << 63, math.MaxUint64} {
		n := string(binary.AppendUvarint(nil, many))
		refused(t, requestSort(), "more than there are", []byte("q\x06\x00"+n+strings.Repeat("\x00", 11)))
		refused(t, reportSort(), "more than there are", []byte("r\x00"+n+"\x00"))
		refused(t, replySort(), "more than there are", []byte("p\x00\x00"+n+"r\x00\x00\x00\x00"))
		refused(t, replySort(), "more than there are", []byte("p\x00\x00\x00r\x00"+n+"\x00\x00"))
	}
	refused(t, requestSort(), "a longer number", []byte("q\x06\x00\x81\x00\x01a"+strings.Repeat("\x00", 11)))
	refused(t, reportSort(), "a longer number", []byte("r\x00\x80\x00\x00"))
	refused(t, replySort(), "a longer number", []byte("p\x00\x00\x80\x00r\x00\x00\x00\x00"))
	refused(t, replySort(), "a longer number", []byte("p\x00\x00\x00r\x00\x80\x00\x00\x00"))
	refused(t, replySort(), "another first byte within", []byte("p\x00\x00\x00q\x00\x00\x00\x00"))
}

// P14.2: a Mask has 16 bits; a truth value is 0 or 1.
func TestReadNumbers(t *testing.T) {
	for _, mask := range []uint64{0, 1, 127, 128, 300, 16383, 16384, 65534, 65535, 65536, 65537, 65536 + 300, 131071, 1 << 31, 1 << 32, 1<<32 + 5, 1 << 48, 1 << 63, math.MaxUint64} {
		b := binary.AppendUvarint([]byte("q"+strings.Repeat("\x00", 13)), mask)
		if mask > 65535 {
			refused(t, requestSort(), "a mask of more bits", b)
		} else {
			readAs(t, requestSort(), b, api.Request{Mask: uint16(mask)})
		}
	}
	for n := 2; n < 256; n++ {
		b := byte(n)
		refused(t, requestSort(), "a truth value", []byte{'q', 0, 0, 0, 0, 0, 0, 0, 0, 0, 0, b, 0, 0, 0})
		refused(t, reportSort(), "a truth value", []byte{'r', 0, 0, b})
		refused(t, replySort(), "a truth value", []byte{'p', 0, 0, 0, 'r', 0, 0, b, 0})
		refused(t, replySort(), "a truth value", []byte{'p', 0, 0, 1, 0, b, 0, 0, 0, 0, 0, 'r', 0, 0, 0, 0})
	}
	for _, s := range []string{"\x80\x00", "\x80\x80\x00", "\x81\x00", "\xff\xff\xff\xff\xff\xff\xff\xff\xff\x02", "\xff\xff\xff\xff\xff\xff\xff\xff\xff\xff\x01"} {
		for i := range 3 {
			parts := []string{"\x00", "\x00", "\x00"}
			parts[i] = s
			refused(t, requestSort(), "a number", []byte("q\x00\x00\x00\x00\x00\x00\x00\x00"+parts[0]+parts[1]+"\x00\x00"+parts[2]+"\x00"))
			refused(t, replySort(), "a number", []byte("p"+parts[0]+parts[1]+"\x00r"+parts[2]+"\x00\x00\x00"))
		}
		refused(t, reportSort(), "a number", []byte("r"+s+"\x00\x00"))
	}
}

// P14.2: a mask that no encoding has, within a change or an entry.
func TestReadMasks(t *testing.T) {
	bad := []string{"\x01\x00", "\x02\x00", "\x08\x00", "\x20\x00", "\x80\x08\x00", "\x80\x20", "\x80\x80\x01", "\x80\x00", "\xff\xff\xff\xff\xff\xff\xff\xff\xff\x01"}
	for _, mask := range append(bad, "\x00", "\x40", "\x80\x01", "\x01\x01a", "\x80\x10\x03") {
		o := "\x01\x01d" + mask
		for _, s := range []string{
			"q\x00\x00\x00\x01" + o + "\x00\x00\x00\x00\x00\x00\x00",
			"r\x00\x02\x00\x00\x00\x00\x01" + o + "\x00",
			"p\x00\x00\x00r\x00\x01\x01" + o + "\x00\x00",
			"p\x00\x00\x01\x00\x01" + o + "\x00\x00r\x00\x00\x00\x00",
		} {
			if many := judged(t, []byte(s)); (many == 0) != slices.Contains(bad, mask) {
				t.Errorf("%x is read as %d things", s, many)
			}
		}
	}
}

// P14.2, P14.6: all short rows of some bytes behind each first byte.
func TestReadShort(t *testing.T) {
	found := 0
	var grow func(b []byte, alphabet []byte, most int)
	grow = func(b []byte, alphabet []byte, most int) {
		found += judged(t, b)
		for _, n := range alphabet {
			if len(b) < most {
				grow(append(b, n), alphabet, most)
			}
		}
	}
	grow(nil, []byte{0, 1, 2, 112, 113, 114, 128}, 5)
	grow([]byte("r"), []byte{0, 1, 64, 128}, 7)
	grow([]byte("q\x00\x00"), []byte{0, 1}, 15)
	grow([]byte("p\x00\x00"), []byte{0, 1, 114}, 9)
	if found < 500 {
		t.Error("too few encodings:", found)
	}
}

func testRoundTrip[T any](t *testing.T, s sort[T]) {
	dice := rand.New(rand.NewPCG(14, 5))
	for range 500 {
		x := thrown(dice, s)
		b, e := s.write(x)
		if e != api.OK || !bytes.Equal(b, s.plain(x)) {
			t.Fatalf("%v: %x %v", x, b, e)
		}
		readAs(t, s, b, x)
		for range 20 {
			i := dice.IntN(len(b))
			other := slices.Concat(b[:i], []byte{byte(dice.IntN(256))}, b[i+dice.IntN(2):])
			judged(t, other)
			if y, e := s.read(other); e == api.OK {
				if again, e := s.write(y); !bytes.Equal(again, other) || e != api.OK {
					t.Fatalf("%x is read as %v, and written as %x %v", other, y, again, e)
				}
			}
		}
	}
}

// P14.5: what has an encoding is read back; what is read is written as the input.
func TestRoundTrip(t *testing.T) {
	testRoundTrip(t, requestSort())
	testRoundTrip(t, reportSort())
	testRoundTrip(t, replySort())
}

// P14.6: an encoding of one is none of the others, not even with another one's first byte.
func TestDistinct(t *testing.T) {
	dice := rand.New(rand.NewPCG(14, 6))
	var all []page
	for _, q := range append(samples(requestSort()), thrown(dice, requestSort())) {
		b := plainRequest(q)
		all = append(all, b)
		refused(t, reportSort(), "a request", b)
		refused(t, replySort(), "a request", b)
	}
	for _, r := range append(samples(reportSort()), thrown(dice, reportSort())) {
		b := plainReport(r)
		all = append(all, b)
		refused(t, requestSort(), "a report", b)
		refused(t, replySort(), "a report", b)
	}
	for _, p := range append(samples(replySort()), thrown(dice, replySort())) {
		b := plainReply(p)
		all = append(all, b)
		refused(t, requestSort(), "a reply", b)
		refused(t, reportSort(), "a reply", b)
	}
	for _, b := range all {
		for _, mark := range []byte{112, 113, 114} {
			judged(t, append([]byte{mark}, b[1:]...))
		}
	}
}

// P14.4: equal ones are, in other memory too, and also if a list is nil in one and empty in the other.
func TestSame(t *testing.T) {
	if !SameRequest(fullRequest(), fullRequest()) || !SameReply(fullReply(), fullReply()) {
		t.Error("the full ones are not equal to themselves")
	}
	if !SameRequest(api.Request{}, api.Request{Handles: []string{}}) || !SameRequest(api.Request{Handles: []string{}}, api.Request{}) {
		t.Error("no handles are not equal to no handles")
	}
	empty := api.Reply{Entries: []api.Entry{}, Report: api.Report{Changes: []api.Change{}}}
	if !SameReply(api.Reply{}, empty) || !SameReply(empty, api.Reply{}) {
		t.Error("empty lists are not equal to empty lists")
	}
	q, p := samples(requestSort()), samples(replySort())
	for i := range q {
		for j := range q {
			if SameRequest(q[i], q[j]) != equal(q[i], q[j]) {
				t.Fatalf("%v and %v: %v", q[i], q[j], SameRequest(q[i], q[j]))
			}
		}
	}
	for i := range p {
		for j := range p {
			if j%17 < 2 && SameReply(p[i], p[j]) != equal(p[i], p[j]) {
				t.Fatalf("%v and %v: %v", p[i], p[j], SameReply(p[i], p[j]))
			}
		}
	}
}

// unlikes gives copies that are unlike in one field alone, within lists too.
func unlikes(v reflect.Value) []reflect.Value {
	copied := func(at func(w reflect.Value) reflect.Value, x reflect.Value) reflect.Value {
		w := reflect.New(v.Type()).Elem()
		w.Set(v)
		at(w).Set(x)
		return w
	}
	var l []reflect.Value
	self := func(w reflect.Value) reflect.Value { return w }
	switch v.Kind() {
	case reflect.Struct:
		for i := range v.NumField() {
			for _, x := range unlikes(v.Field(i)) {
				l = append(l, copied(func(w reflect.Value) reflect.Value { return w.Field(i) }, x))
			}
		}
	case reflect.Slice:
		whole := reflect.MakeSlice(v.Type(), 0, 0)
		l = append(l, copied(self, v.Slice(0, v.Len()-1)), copied(self, v.Slice(1, v.Len())), copied(self, whole))
		l = append(l, copied(self, reflect.AppendSlice(whole, reflect.Append(v.Slice3(0, v.Len(), v.Len()), v.Index(0)))))
		l = append(l, copied(self, reflect.AppendSlice(reflect.Append(whole, v.Index(1), v.Index(0)), v.Slice(2, v.Len()))))
		for i := range v.Len() {
			for _, x := range unlikes(v.Index(i)) {
				other := reflect.AppendSlice(reflect.MakeSlice(v.Type(), 0, 0), v)
				other.Index(i).Set(x)
				l = append(l, other)
			}
		}
	case reflect.String:
		l = append(l, copied(self, reflect.ValueOf(v.String()+"x")), copied(self, reflect.ValueOf(strings.ToUpper(v.String())+"\x00")))
	case reflect.Bool:
		l = append(l, copied(self, reflect.ValueOf(!v.Bool())))
	case reflect.Uint8, reflect.Uint16:
		for bit := range v.Type().Bits() {
			l = append(l, copied(self, reflect.ValueOf(v.Uint()^1<<bit).Convert(v.Type())))
		}
	case reflect.Int, reflect.Int64:
		for bit := range v.Type().Bits() {
			l = append(l, copied(self, reflect.ValueOf(v.Int()^1<<bit).Convert(v.Type())))
		}
	}
	return l
}

// P14.4: those that are unlike in one field alone, or in one element of a list, are not equal.
func TestUnlike(t *testing.T) {
	for _, q := range []api.Request{fullRequest(), {Handles: []string{"a", "b"}}} {
		for _, x := range unlikes(reflect.ValueOf(q)) {
			r := x.Interface().(api.Request)
			if SameRequest(q, r) || SameRequest(r, q) || !SameRequest(r, r) {
				t.Fatalf("%v and %v", q, r)
			}
		}
	}
	p := fullReply()
	all := unlikes(reflect.ValueOf(p))
	if len(all) < 1000 {
		t.Fatal("too few are unlike:", len(all))
	}
	for _, x := range all {
		r := x.Interface().(api.Reply)
		if SameReply(p, r) || SameReply(r, p) || !SameReply(r, r) {
			t.Fatalf("%v and %v", p, r)
		}
	}
}

// P14.4: also those are compared that have no encoding.
func TestSameLong(t *testing.T) {
	l := make([]string, 1000)
	l[999] = strings.Repeat("s", 1000)
	q, r := api.Request{Handles: l}, api.Request{Handles: slices.Clone(l)}
	if !SameRequest(q, r) {
		t.Error("equal requests")
	}
	if r.Handles[999] += "s"; SameRequest(q, r) {
		t.Error("unlike requests")
	}
	a, b := api.Reply{Entries: make([]api.Entry, 100)}, api.Reply{Entries: make([]api.Entry, 100)}
	if !SameReply(a, b) {
		t.Error("equal replies")
	}
	if b.Entries[99].Stamp.State = 1; SameReply(a, b) {
		t.Error("unlike replies")
	}
}

// plainJoin gives what frames are in all, however long they are.
func plainJoin(l [][]byte) page {
	var p page
	for _, f := range l {
		p = p.unsigned(len(f)).bytes(f...)
	}
	return p
}

// plainSplit gives the frames, or that there are none.
func plainSplit(b []byte) ([][]byte, bool) {
	var l [][]byte
	c := cursor{rest: b}
	for len(c.rest) > 0 && !c.bad {
		many := c.unsigned(4096)
		c.must(many > 0)
		l = append(l, c.take(int(many)))
	}
	return l, !c.bad && len(b) <= octet.MaxBytes
}

func sameFrames(a, b [][]byte) bool {
	return slices.EqualFunc(a, b, bytes.Equal)
}

// frame gives a frame of so many bytes.
func frame(many int) []byte {
	l := make([]byte, many)
	for i := range l {
		l[i] = byte(i*7 + many)
	}
	return l
}

// joined holds that the frames are joined, and split again.
func joined(t *testing.T, l [][]byte) {
	t.Helper()
	want := plainJoin(l)
	b, e := Join(l)
	if !bytes.Equal(b, want) || e != api.OK {
		t.Fatalf("%d frames: %x %v", len(l), b, e)
	}
	if again, e := Split(b); !sameFrames(again, l) || e != api.OK {
		t.Fatalf("%d frames: %d, %v", len(l), len(again), e)
	}
}

// notJoined holds that the frames are not joined.
func notJoined(t *testing.T, l [][]byte) {
	t.Helper()
	if b, e := Join(l); b != nil || e != api.ErrLong {
		t.Fatalf("%d frames: %d bytes, %v", len(l), len(b), e)
	}
}

// notSplit holds that the bytes are no frames.
func notSplit(t *testing.T, what string, b []byte) {
	t.Helper()
	if l, e := Split(b); l != nil || e != api.ErrCode {
		t.Fatalf("%s: %d frames, %v", what, len(l), e)
	}
}

// P14.3: the chapter's example; no frames; frames without bytes, or with too many; the bytes of all of them.
func TestJoin(t *testing.T) {
	if MaxFrame != 4096 {
		t.Error(MaxFrame)
	}
	if b, e := Join([][]byte{{5, 6}, {7}}); !bytes.Equal(b, []byte{2, 5, 6, 1, 7}) || e != api.OK {
		t.Error(b, e)
	}
	for _, l := range [][][]byte{nil, {}} {
		if b, e := Join(l); len(b) != 0 || e != api.OK {
			t.Error(b, e)
		}
	}
	for _, many := range []int{1, 2, 3, 126, 127, 128, 129, 255, 256, 257, 4094, 4095, 4096} {
		joined(t, [][]byte{frame(many)})
		joined(t, [][]byte{{0}, frame(many), frame(many), {255}})
		for _, none := range [][]byte{nil, {}} {
			notJoined(t, [][]byte{none})
			notJoined(t, [][]byte{none, frame(many)})
			notJoined(t, [][]byte{frame(many), none})
			notJoined(t, [][]byte{frame(1), none, frame(many)})
		}
	}
	for _, many := range []int{4097, 4098, 8192, 65535, 65536, 100000} {
		notJoined(t, [][]byte{frame(many)})
		notJoined(t, [][]byte{{1}, frame(many)})
		notJoined(t, [][]byte{frame(many), {1}})
	}
}

// P14.3: frames are at most MaxBytes in all, be they many or long.
func TestJoinBytes(t *testing.T) {
	long := slices.Repeat([][]byte{frame(4096)}, 15)
	for last := 4050; last <= 4096; last++ {
		l := append(slices.Clone(long), frame(last))
		if b := plainJoin(l); len(b) > octet.MaxBytes {
			notJoined(t, l)
			notSplit(t, "too many bytes", b)
		} else {
			joined(t, l)
		}
	}
	if n := len(plainJoin(append(slices.Clone(long), frame(4064)))); n != octet.MaxBytes {
		t.Error(n)
	}
	joined(t, slices.Repeat([][]byte{{9}}, 32767))
	joined(t, slices.Repeat([][]byte{{9}}, 32768))
	notJoined(t, slices.Repeat([][]byte{{9}}, 32769))
	notJoined(t, append(slices.Repeat([][]byte{{9}}, 32767), []byte{9, 9}))
	notJoined(t, append([][]byte{{9, 9}}, slices.Repeat([][]byte{{9}}, 32767)...))
	notJoined(t, slices.Repeat([][]byte{frame(4096)}, 100))
	notSplit(t, "too many bytes", plainJoin(slices.Repeat([][]byte{{9}}, 32769)))
	notSplit(t, "too many bytes", plainJoin(slices.Repeat([][]byte{frame(4096)}, 100)))
}

// P14.3: what is split, and what is not.
func TestSplit(t *testing.T) {
	for _, b := range [][]byte{nil, {}} {
		if l, e := Split(b); len(l) != 0 || e != api.OK {
			t.Error(l, e)
		}
	}
	if l, e := Split([]byte{2, 5, 6, 1, 7}); !sameFrames(l, [][]byte{{5, 6}, {7}}) || e != api.OK {
		t.Error(l, e)
	}
	good := plainJoin([][]byte{frame(3), frame(130)})
	for i := 1; i < len(good); i++ {
		if i == 4 {
			continue // the first frame alone
		}
		notSplit(t, "too few bytes", good[:i])
	}
	for _, behind := range []page{nil, {1, 5}} {
		for _, ahead := range []page{nil, {1, 5}, {3, 0, 0, 0}} {
			with := func(middle ...byte) page { return slices.Concat(ahead, middle, behind) }
			notSplit(t, "a frame of no bytes", with(0))
			notSplit(t, "a longer number", with(129, 0, 5))
			notSplit(t, "a longer number", with(128, 0))
			notSplit(t, "a longer number", with(130, 128, 0, 5, 5))
			notSplit(t, "too long a frame", with(plainJoin([][]byte{frame(4097)})...))
			notSplit(t, "too long a frame", with(plainJoin([][]byte{frame(16384)})...))
		}
		for _, many := range []uint64{4096, 4097, 1 << 31, 1 << 32, 1<<32 + 1, 1 << 63, 1<<63 + 1, math.MaxUint64} {
			notSplit(t, "a length above what follows", append(binary.AppendUvarint(nil, many), behind...))
		}
	}
	notSplit(t, "a number of more than 64 bits", []byte{255, 255, 255, 255, 255, 255, 255, 255, 255, 2, 1})
	for _, many := range []int{65537, 65538, 70000, 1 << 20} {
		notSplit(t, "too many bytes", bytes.Repeat([]byte{1}, many))
	}
	if l, e := Split(bytes.Repeat([]byte{1}, 65536)); len(l) != 32768 || e != api.OK {
		t.Error(len(l), e)
	}
}

// P14.3, P14.7: all short rows of some bytes are split as another way tells; what is split is joined to what it was.
func TestSplitShort(t *testing.T) {
	var grow func(b []byte)
	grow = func(b []byte) {
		want, ok := plainSplit(b)
		l, e := Split(b)
		switch {
		case !ok && (l != nil || e != api.ErrCode):
			t.Fatalf("%x: %x %v", b, l, e)
		case ok && (!sameFrames(l, want) || e != api.OK):
			t.Fatalf("%x: %x %v, not %x", b, l, e, want)
		}
		if again, e := Join(l); ok && (!bytes.Equal(again, b) || e != api.OK) {
			t.Fatalf("%x: joined to %x %v", b, again, e)
		}
		for _, n := range []byte{0, 1, 2, 3, 128, 129} {
			if len(b) < 6 {
				grow(append(b, n))
			}
		}
	}
	grow(nil)
}

// P14.7: Split undoes Join; two joined lists, one behind the other, are split into both.
func TestFrames(t *testing.T) {
	dice := rand.New(rand.NewPCG(14, 7))
	some := func() [][]byte {
		l := make([][]byte, dice.IntN(6))
		for i := range l {
			l[i] = frame(1 + dice.IntN([]int{3, 130, 4096}[dice.IntN(3)]))
		}
		return l
	}
	for range 300 {
		x, y := some(), some()
		joined(t, x)
		a, _ := Join(x)
		b, _ := Join(y)
		if l, e := Split(append(a, b...)); !sameFrames(l, append(x, y...)) || e != api.OK {
			t.Fatalf("%d and %d frames: %d, %v", len(x), len(y), len(l), e)
		}
	}
	q, _ := Request(fullRequest())
	p, _ := Reply(fullReply())
	b, _ := Join([][]byte{q, p})
	l, e := Split(b)
	if len(l) != 2 || e != api.OK {
		t.Fatal(l, e)
	}
	readAs(t, requestSort(), l[0], fullRequest())
	readAs(t, replySort(), l[1], fullReply())
}

func testKept[T any](t *testing.T, s sort[T], spoil func(x T)) {
	x := s.full()
	a, _ := s.write(x)
	b, _ := s.write(x)
	if !equal(x, s.full()) {
		t.Errorf("%v was changed", x)
	}
	spoil(x)
	if !bytes.Equal(a, s.plain(s.full())) {
		t.Error("what was written is kept")
	}
	y, _ := s.read(a)
	z, _ := s.read(a)
	if !bytes.Equal(a, b) {
		t.Error("the bytes were changed")
	}
	for i := range a {
		a[i] ^= 255
	}
	if !bytes.Equal(b, s.plain(s.full())) || !equal(y, s.full()) {
		t.Error("memory is shared with the bytes")
	}
	spoil(y)
	if !equal(z, s.full()) {
		t.Error("what was read shares memory with what was read")
	}
}

// P14.1 to P14.4: nothing that is handed in is changed or kept, and nothing that is told shares memory with it.
func TestKept(t *testing.T) {
	testKept(t, requestSort(), func(q api.Request) { q.Handles[0] += "x" })
	testKept(t, reportSort(), func(r api.Report) { r.Changes[1].O.Handle += "x" })
	testKept(t, replySort(), func(p api.Reply) {
		p.Entries[1].Handle += "x"
		p.Report.Changes[0].Kind++
	})
	q, p := fullRequest(), fullReply()
	SameRequest(q, q)
	SameReply(p, p)
	if !equal(q, fullRequest()) || !equal(p, fullReply()) {
		t.Error("what was compared was changed")
	}
}

// P14.3: frames that are handed in are not changed or kept, and those that are told share no memory, not even at their ends.
func TestFramesKept(t *testing.T) {
	l := [][]byte{{5, 6}, {7}}
	a, _ := Join(l)
	b, _ := Join(l)
	if !sameFrames(l, [][]byte{{5, 6}, {7}}) {
		t.Error("the frames were changed", l)
	}
	l[0][1], l[1] = 9, nil
	split, _ := Split(a)
	again, _ := Split(a)
	if !bytes.Equal(a, []byte{2, 5, 6, 1, 7}) {
		t.Error("the bytes were changed", a)
	}
	for i := range a {
		a[i] = 99
	}
	if !bytes.Equal(b, []byte{2, 5, 6, 1, 7}) || !sameFrames(split, [][]byte{{5, 6}, {7}}) {
		t.Error("memory is shared with the bytes", b, split)
	}
	split[0] = append(split[0], 1, 1, 1, 1)
	split[0][0] = 0
	if !bytes.Equal(split[1], []byte{7}) || !sameFrames(again, [][]byte{{5, 6}, {7}}) {
		t.Error("frames share memory", split, again)
	}
}
