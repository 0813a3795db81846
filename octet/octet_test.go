package octet

import (
	"bytes"
	"encoding/binary"
	"math"
	"math/rand/v2"
	"reflect"
	"slices"
	"strings"
	"testing"

	"bedside/api"
)

// An item is a uint8, a bool, a uint64, an int64 or a string.

// samples holds one item of each of the five sorts, none of them zero.
var samples = []any{uint8(200), true, uint64(300), int64(-3), "ab"}

func put(w *Writer, item any) {
	switch x := item.(type) {
	case uint8:
		w.Byte(x)
	case bool:
		w.Truth(x)
	case uint64:
		w.Uint(x)
	case int64:
		w.Int(x)
	case string:
		w.Text(x)
	}
}

// get reads an item of the sort of that one.
func get(r *Reader, like any) any {
	switch like.(type) {
	case uint8:
		return r.Byte()
	case bool:
		return r.Truth()
	case uint64:
		return r.Uint()
	case int64:
		return r.Int()
	}
	return r.Text()
}

func getAll(r *Reader, like []any) []any {
	var l []any
	for _, x := range like {
		l = append(l, get(r, x))
	}
	return l
}

// zero gives the zero value of the sort of that item.
func zero(like any) any {
	return reflect.Zero(reflect.TypeOf(like)).Interface()
}

// plain gives the bytes of the items, in another way than the package does.
func plain(items ...any) []byte {
	var b []byte
	for _, item := range items {
		switch x := item.(type) {
		case uint8:
			b = append(b, x)
		case bool:
			b = append(b, map[bool]byte{true: 1}[x])
		case uint64:
			b = binary.AppendUvarint(b, x)
		case int64:
			b = binary.AppendVarint(b, x)
		case string:
			b = append(binary.AppendUvarint(b, uint64(len(x))), x...)
		}
	}
	return b
}

// plainGet gives the item of that sort with which the bytes begin, how many bytes it has, and whether there is one. It looks for the item whose bytes these are.
func plainGet(b []byte, like any) (item any, many int, is bool) {
	n, _ := binary.Uvarint(b)
	i, _ := binary.Varint(b)
	switch like.(type) {
	case uint8:
		item = append(slices.Clone(b), 0)[0]
	case bool:
		item = bytes.HasPrefix(b, []byte{1})
	case uint64:
		item = n
	case int64:
		item = i
	case string:
		from := len(plain(n))
		if n > 255 || uint64(len(b)) < uint64(from)+n {
			return "", 0, false
		}
		item = string(b[from : from+int(n)])
	}
	if l := plain(item); bytes.HasPrefix(b, l) {
		return item, len(l), true
	}
	return zero(like), 0, false
}

// written holds what the writer tells against the bytes, and that it tells it again, in other memory.
func written(t *testing.T, what any, w *Writer, want []byte) {
	t.Helper()
	b, e := w.Bytes()
	if !bytes.Equal(b, want) || e != api.OK {
		t.Fatalf("%v: %x %v, not %x", what, b, e, want)
	}
	for i := range b {
		b[i]++
	}
	_ = append(b, 77)
	if b, e := w.Bytes(); !bytes.Equal(b, want) || e != api.OK {
		t.Fatalf("%v again: %x %v, not %x", what, b, e, want)
	}
}

// writerFailed holds that the writer has failed, and stays so, whatever is written.
func writerFailed(t *testing.T, what any, w *Writer, want api.Errno) {
	t.Helper()
	for _, x := range append([]any{uint8(0), ""}, samples...) {
		if b, e := w.Bytes(); b != nil || e != want {
			t.Fatalf("%v: %d bytes, %v, not %v", what, len(b), e, want)
		}
		put(w, x)
	}
	if b, e := w.Bytes(); b != nil || e != want {
		t.Fatalf("%v, later: %d bytes, %v, not %v", what, len(b), e, want)
	}
}

// stands holds what the reader tells of itself.
func stands(t *testing.T, what any, r *Reader, left int, failed bool, end api.Errno) {
	t.Helper()
	if r.Left() != left || r.Failed() != failed || r.End() != end {
		t.Fatalf("%v: %d left, failed %v, end %v; not %d, %v, %v", what, r.Left(), r.Failed(), r.End(), left, failed, end)
	}
}

// good holds that the reader has not failed, with that many bytes left.
func good(t *testing.T, what any, r *Reader, left int) {
	t.Helper()
	if left == 0 {
		stands(t, what, r, 0, false, api.OK)
		return
	}
	stands(t, what, r, left, false, api.ErrCode)
}

// readerFailed holds that the reader has failed, and stays so, whatever is read.
func readerFailed(t *testing.T, what any, r *Reader, end api.Errno) {
	t.Helper()
	for _, x := range samples {
		stands(t, what, r, 0, true, end)
		if y := get(r, x); y != zero(x) {
			t.Fatalf("%v: %T %v of a reader that has failed", what, y, y)
		}
	}
	stands(t, what, r, 0, true, end)
}

// reads holds that the bytes begin with that item, and how many are left then.
func reads(t *testing.T, b []byte, item any, left int) {
	t.Helper()
	r := Read(b)
	if x := get(r, item); x != item {
		t.Fatalf("%x: %T %v, not %v", b, x, x, item)
	}
	good(t, item, r, left)
}

// refuses holds that the bytes do not begin with an item of that sort.
func refuses(t *testing.T, b []byte, like any) {
	t.Helper()
	r := Read(b)
	good(t, b, r, len(b))
	if x := get(r, like); x != zero(like) {
		t.Fatalf("%x: %T %v", b, x, x)
	}
	readerFailed(t, b, r, api.ErrCode)
}

// asPlain reads an item of that sort, and holds it against what plainGet says.
func asPlain(t *testing.T, b []byte, like any) {
	t.Helper()
	if item, many, is := plainGet(b, like); is {
		reads(t, b, item, len(b)-many)
		return
	}
	refuses(t, b, like)
}

// both writes the items, and reads them back.
func both(t *testing.T, items ...any) []byte {
	t.Helper()
	var w Writer
	for i, x := range items {
		put(&w, x)
		written(t, x, &w, plain(items[:i+1]...))
	}
	b, _ := w.Bytes()
	r := Read(b)
	for i, x := range items {
		if y := get(r, x); y != x {
			t.Fatalf("%T %v, not %v", y, y, x)
		}
		good(t, x, r, len(b)-len(plain(items[:i+1]...)))
	}
	stands(t, items, r, 0, false, api.OK)
	return b
}

// filled gives a writer of n bytes, and these.
func filled(n int) (*Writer, []byte) {
	w := &Writer{}
	var b []byte
	for i := range n {
		c := uint8(i*i>>8 + i)
		w.Byte(c)
		b = append(b, c)
	}
	return w, b
}

// numbers gives each power of two and the number before it, and what else the chapter speaks of.
func numbers() []uint64 {
	l := []uint64{0, 127, 128, 300, math.MaxUint64, math.MaxUint64 - 1}
	for i := range 64 {
		l = append(l, 1<<i-1, 1<<i, 1<<i+1)
	}
	return l
}

// tails holds ends of numbers in which each sort of byte stands.
var tails = []byte{0, 1, 2, 3, 64, 127, 128, 129, 130, 192, 254, 255}

func dice() *rand.Rand {
	return rand.New(rand.NewPCG(12, 34))
}

// anyItem gives an item, short ones and ends of ranges more often than others.
func anyItem(d *rand.Rand) any {
	n := d.Uint64() >> d.IntN(64)
	switch d.IntN(5) {
	case 0:
		return uint8(n)
	case 1:
		return n%2 == 0
	case 2:
		return n
	case 3:
		return int64(n)
	}
	b := make([]byte, d.IntN([]int{4, 256}[d.IntN(2)]))
	for i := range b {
		b[i] = byte(d.Uint32())
	}
	return string(b)
}

func anyItems(d *rand.Rand) []any {
	var l []any
	for range d.IntN(12) {
		l = append(l, anyItem(d))
	}
	return l
}

// P12.1, P12.2, P12.4: the chapter's examples, and the numbers and the strings that its definitions speak of.
func TestExamples(t *testing.T) {
	for _, x := range []struct {
		item any
		want string
	}{
		{uint64(300), "\xac\x02"}, {int64(-3), "\x05"}, {"ab", "\x02ab"},
		{int64(0), "\x00"}, {int64(-1), "\x01"}, {int64(1), "\x02"}, {int64(-2), "\x03"}, {int64(2), "\x04"},
		{int64(63), "\x7e"}, {int64(-64), "\x7f"}, {int64(64), "\x80\x01"}, {int64(-65), "\x81\x01"},
		{int64(math.MaxInt64), "\xfe\xff\xff\xff\xff\xff\xff\xff\xff\x01"},
		{int64(math.MinInt64), "\xff\xff\xff\xff\xff\xff\xff\xff\xff\x01"},
		{int64(math.MinInt64 + 1), "\xfd\xff\xff\xff\xff\xff\xff\xff\xff\x01"},
		{uint64(0), "\x00"}, {uint64(1), "\x01"}, {uint64(127), "\x7f"}, {uint64(128), "\x80\x01"},
		{uint64(16383), "\xff\x7f"}, {uint64(16384), "\x80\x80\x01"},
		{uint64(1<<63 - 1), "\xff\xff\xff\xff\xff\xff\xff\xff\x7f"},
		{uint64(1 << 63), "\x80\x80\x80\x80\x80\x80\x80\x80\x80\x01"},
		{uint64(math.MaxUint64), "\xff\xff\xff\xff\xff\xff\xff\xff\xff\x01"},
		{false, "\x00"}, {true, "\x01"},
		{uint8(0), "\x00"}, {uint8(1), "\x01"}, {uint8(200), "\xc8"}, {uint8(255), "\xff"},
		{"", "\x00"}, {"\x00", "\x01\x00"}, {"\xff\xfe", "\x02\xff\xfe"}, {"é", "\x02\xc3\xa9"},
		{strings.Repeat("c", 127), "\x7f" + strings.Repeat("c", 127)},
		{strings.Repeat("c", 128), "\x80\x01" + strings.Repeat("c", 128)},
		{strings.Repeat("\x80", 255), "\xff\x01" + strings.Repeat("\x80", 255)},
	} {
		if b := both(t, x.item); string(b) != x.want {
			t.Errorf("%T %v: %x, not %x", x.item, x.item, b, x.want)
		}
		reads(t, []byte(x.want), x.item, 0)
		reads(t, []byte(x.want+"\x80\x00"), x.item, 2)
	}
	refuses(t, []byte{128, 0}, uint64(0))
}

// P12.1, P12.2, P12.4: all bytes, both truth values, numbers of all lengths, strings of all lengths.
func TestEachItem(t *testing.T) {
	for n := range 256 {
		both(t, uint8(n))
		both(t, strings.Repeat(string([]byte{byte(n)}), n))
	}
	both(t, true)
	both(t, false)
	for _, n := range numbers() {
		both(t, n)
		both(t, int64(n))
		both(t, -int64(n))
	}
	for n := range 1 << 15 {
		both(t, uint64(n))
		both(t, int64(n))
		both(t, int64(-n))
	}
}

// P12.1: a zero Writer is empty; nothing is written to a nil one.
func TestWritersOfNothing(t *testing.T) {
	var w Writer
	written(t, "zero", &w, nil)
	written(t, "new", new(Writer), nil)
	writerFailed(t, "nil", nil, api.ErrNil)
	var none *Writer
	none.Text(strings.Repeat("c", 256))
	writerFailed(t, "nil, a long string", none, api.ErrNil)
}

// P12.1: strings that are too long.
func TestStringsThatAreTooLong(t *testing.T) {
	for _, n := range []int{256, 257, 300, 511, 512, 65535, 65536, 65537, 1 << 20} {
		for _, before := range []int{0, 1, 255, 256, 257, 65000, 65536} {
			w, _ := filled(before)
			w.Text(strings.Repeat("c", n))
			writerFailed(t, n, w, api.ErrLong)
		}
	}
}

// P12.1: as many bytes as there may be, and one more, by items of all sorts and lengths; a writer that fails appends nothing of the item, and nothing later.
func TestAsManyBytesAsThereMayBe(t *testing.T) {
	items := []any{uint8(0), uint8(255), true, false, "", strings.Repeat("a", 127), strings.Repeat("b", 128), strings.Repeat("c", 255)}
	for _, x := range samples {
		items = append(items, x)
	}
	for i := range 10 {
		items = append(items, uint64(1)<<(7*i), int64(1)<<(7*i)>>1, -(int64(1) << (7 * i) >> 1))
	}
	for _, x := range items {
		many := len(plain(x))
		for _, free := range []int{0, 1, many - 1, many, many + 1} {
			w, b := filled(MaxBytes - free)
			put(w, x)
			if many > free {
				writerFailed(t, x, w, api.ErrLong)
				continue
			}
			b = append(b, plain(x)...)
			written(t, x, w, b)
			if many == free {
				put(w, x)
				writerFailed(t, x, w, api.ErrLong)
			}
		}
	}
}

// P12.1, P12.4: as many bytes as there may be, of one sort of item each.
func TestManyItemsOfOneSort(t *testing.T) {
	for _, x := range samples {
		var w Writer
		many := MaxBytes / len(plain(x))
		for range many {
			put(&w, x)
		}
		b, e := w.Bytes()
		if !bytes.Equal(b, bytes.Repeat(plain(x), many)) || e != api.OK {
			t.Fatalf("%T: %d bytes, %v", x, len(b), e)
		}
		r := Read(b)
		for range many {
			if y := get(r, x); y != x {
				t.Fatalf("%T %v, not %v", y, y, x)
			}
		}
		good(t, x, r, 0)
		for range MaxBytes - len(b) + 1 {
			w.Byte(0)
		}
		writerFailed(t, x, &w, api.ErrLong)
	}
}

// P12.1: bytes that were told do not change with what is written later, and what becomes of them does not change the writer.
func TestBytesAreNewMemory(t *testing.T) {
	for _, n := range []int{0, 1, 2, 255, 256, 257, 512, 1000, 65535} {
		w, want := filled(n)
		first, _ := w.Bytes()
		second, _ := w.Bytes()
		w.Byte(9)
		if !bytes.Equal(first, want) {
			t.Fatalf("%d bytes: %x", n, first)
		}
		clear(first)
		first = append(first, 1, 2, 3)
		if !bytes.Equal(second, want) || len(first) != n+3 {
			t.Fatalf("%d bytes, told twice: %x", n, second)
		}
		written(t, n, w, append(want, 9))
	}
}

// P12.1: a Writer that is assigned goes on alone.
func TestAssignedWriters(t *testing.T) {
	for _, n := range []int{0, 1, 7, 255, 256, 257, 511, 512, 513, 1000} {
		w, want := filled(n)
		x, y := *w, *w
		w.Text("w")
		x.Text("xx")
		again := x
		x = y
		x.Uint(300)
		y.Text(strings.Repeat("c", 256))
		written(t, n, w, append(slices.Clone(want), plain("w")...))
		written(t, n, &x, append(slices.Clone(want), plain(uint64(300))...))
		written(t, n, &again, append(slices.Clone(want), plain("xx")...))
		writerFailed(t, n, &y, api.ErrLong)
	}
}

// P12.2, P12.3: readers without bytes, and nil ones.
func TestReadersOfNothing(t *testing.T) {
	for _, x := range samples {
		refuses(t, nil, x)
		refuses(t, []byte{}, x)
	}
	good(t, "none", Read(nil), 0)
	good(t, "none", Read([]byte{}), 0)
	good(t, "zero", &Reader{}, 0)
	readerFailed(t, "nil", nil, api.ErrNil)
}

// P12.2: bytes and truth values.
func TestReadBytesAndTruths(t *testing.T) {
	for n := range 256 {
		for _, rest := range [][]byte{nil, {0}, {1, 255}} {
			b := append([]byte{byte(n)}, rest...)
			reads(t, b, uint8(n), len(rest))
			if n > 1 {
				refuses(t, b, true)
				continue
			}
			reads(t, b, n == 1, len(rest))
		}
	}
}

// P12.2, P12.5: all short bytes, read as each sort of item, against plainGet.
func TestReadShortBytes(t *testing.T) {
	for _, x := range samples {
		for n := range 1 << 16 {
			asPlain(t, []byte{byte(n), byte(n >> 8)}, x)
		}
		for _, a := range tails {
			for _, b := range tails {
				for _, c := range tails {
					asPlain(t, []byte{a, b, c}, x)
					asPlain(t, []byte{a, b, c, 0, 1, 128}, x)
				}
			}
		}
	}
}

// P12.2: numbers of all lengths: too few bytes, more than are needed, more than 64 bits.
func TestReadLongNumbers(t *testing.T) {
	for many := range 14 {
		for _, c := range []byte{128, 129, 200, 255} {
			b := bytes.Repeat([]byte{c}, many)
			refuses(t, b, uint64(0))
			refuses(t, b, int64(0))
			refuses(t, b, "")
			for _, last := range tails {
				asPlain(t, append(slices.Clone(b), last), uint64(0))
				asPlain(t, append(slices.Clone(b), last), int64(0))
				for _, beyond := range tails {
					asPlain(t, append(slices.Clone(b), last, beyond), uint64(0))
					asPlain(t, append(slices.Clone(b), last, beyond), int64(0))
				}
			}
		}
	}
}

// P12.2: the tenth byte has one bit, and there is no eleventh one.
func TestReadTenBytes(t *testing.T) {
	nine := bytes.Repeat([]byte{255}, 9)
	for last := range 256 {
		b := append(slices.Clone(nine), byte(last))
		if last == 1 {
			reads(t, b, uint64(math.MaxUint64), 0)
			reads(t, b, int64(math.MinInt64), 0)
			continue
		}
		for _, rest := range [][]byte{nil, {0}, {1}, {128, 1}} {
			refuses(t, append(slices.Clone(b), rest...), uint64(0))
			refuses(t, append(slices.Clone(b), rest...), int64(0))
		}
	}
	reads(t, append(bytes.Repeat([]byte{255}, 8), 127), uint64(math.MaxUint64>>1), 0)
	reads(t, append(bytes.Repeat([]byte{128}, 8), 1), uint64(1)<<56, 0)
	refuses(t, append(bytes.Repeat([]byte{128}, 8), 0), uint64(0))
}

// P12.2: strings: too few bytes, lengths above 255 (with and without that many bytes), lengths that are not numbers.
func TestReadStrings(t *testing.T) {
	all := bytes.Repeat([]byte("xyz"), 200)
	for n := range 600 {
		for _, there := range []int{0, 1, max(n-1, 0), n, n + 1} {
			b := append(plain(uint64(n)), all[:there]...)
			if n > MaxText || there < n {
				refuses(t, b, "")
				continue
			}
			reads(t, b, string(all[:n]), there-n)
		}
	}
	for _, n := range numbers() {
		asPlain(t, append(plain(n), all...), "")
		asPlain(t, plain(n), "")
	}
	for _, s := range []string{"\x80\x00", "\x81\x00a", "\x82\x80\x00ab", "\x80", "\xff", "\xff\xff\xff\xff\xff\xff\xff\xff\xff\x02a"} {
		refuses(t, []byte(s), "")
	}
}

// P12.2, P12.3: a reader fails at any item, after others that were there; from then on it tells nothing more.
func TestReadersThatFailLater(t *testing.T) {
	bad := map[int][]byte{0: nil, 1: {2, 1, 1}, 2: {128, 0, 1}, 3: {129, 0, 1}, 4: {3, 97, 98}}
	for i, like := range samples {
		b := append(plain(samples...), bad[i]...)
		r := Read(b)
		for _, x := range samples {
			if y := get(r, x); y != x {
				t.Fatalf("%T %v, not %v", y, y, x)
			}
		}
		good(t, "before", r, len(bad[i]))
		if x := get(r, like); x != zero(like) {
			t.Fatalf("%T %v", x, x)
		}
		readerFailed(t, like, r, api.ErrCode)
	}
}

// P12.3: what is left, item by item; a reader with bytes left has not failed, and reads on.
func TestLeft(t *testing.T) {
	b := plain(samples...)
	r := Read(b)
	good(t, "all", r, 8)
	for i, left := range []int{7, 6, 4, 3, 0} {
		if x := get(r, samples[i]); x != samples[i] {
			t.Fatalf("%T %v, not %v", x, x, samples[i])
		}
		good(t, samples[i], r, left)
		good(t, samples[i], r, left)
	}
	if n := r.Byte(); n != 0 {
		t.Errorf("%d beyond the end", n)
	}
	readerFailed(t, "beyond the end", r, api.ErrCode)
	for n := range 1000 {
		good(t, n, Read(make([]byte, n)), n)
	}
}

// P12.2: a reader reads more bytes than a writer may have.
func TestReadManyBytes(t *testing.T) {
	b := bytes.Repeat(plain(samples...), MaxBytes/4)
	r := Read(b)
	for range MaxBytes / 4 {
		if l := getAll(r, samples); !slices.Equal(l, samples) {
			t.Fatal(l)
		}
	}
	good(t, "many", r, 0)
}

// P12.2: the bytes that Read is given are not changed, and not kept.
func TestReadDoesNotKeepItsBytes(t *testing.T) {
	for _, items := range [][]any{samples, {uint8(2), ""}, {"abc", true}, {false}} {
		room := append(plain(items...), 7, 8, 9)
		b := room[:len(room)-3]
		want := slices.Clone(room)
		r, other := Read(b), Read(b)
		getAll(other, items)
		other.Text()
		if !bytes.Equal(room, want) {
			t.Fatalf("%x, not %x", room, want)
		}
		clear(room)
		if l := getAll(r, items); !slices.Equal(l, items) {
			t.Fatalf("%v, not %v", l, items)
		}
		good(t, items, r, 0)
		if !bytes.Equal(room, make([]byte, len(room))) {
			t.Fatalf("%x is written to", room)
		}
	}
}

// P12.2: readers of the same bytes, and a Reader that is assigned, go on alone.
func TestReadersStandAlone(t *testing.T) {
	b := plain(samples...)
	r := Read(b)
	r.Byte()
	x, y := *r, Read(b)
	if l := getAll(&x, samples[1:]); !slices.Equal(l, samples[1:]) {
		t.Errorf("%v", l)
	}
	x.Byte()
	readerFailed(t, "x", &x, api.ErrCode)
	good(t, "r", r, 7)
	good(t, "y", y, 8)
	if l := getAll(r, samples[1:]); !slices.Equal(l, samples[1:]) {
		t.Errorf("%v", l)
	}
	good(t, "y", y, 8)
}

// P12.4, P12.6: items of all sorts: what was written is read back; a proper prefix of it is not, nor are more bytes.
func TestRoundTripAndTruncation(t *testing.T) {
	d := dice()
	for range 400 {
		items := anyItems(d)
		b := both(t, items...)
		for n := range b {
			r := Read(b[:n])
			l := getAll(r, items)
			readerFailed(t, items, r, api.ErrCode)
			for i, x := range l {
				if whole := len(plain(items[:i+1]...)) <= n; whole && x != items[i] || !whole && x != zero(items[i]) {
					t.Fatalf("%x of %d bytes of %x: %v", n, len(b), b, l)
				}
			}
		}
		r := Read(append(b, 0))
		getAll(r, items)
		stands(t, items, r, 1, false, api.ErrCode)
	}
}

// P12.5, P12.6: all sequences of at most three items of all sorts, read from short bytes: what is read to the end has just these bytes, and no end is missing.
func TestUniqueness(t *testing.T) {
	few := []byte{0, 1, 2, 127, 128, 129}
	rows := [][]byte{nil}
	for from := 0; len(rows[from]) < 4; from++ {
		for _, c := range few {
			rows = append(rows, append(slices.Clone(rows[from]), c))
		}
	}
	sorts := [][]any{nil}
	for from := 0; len(sorts[from]) < 3; from++ {
		for _, x := range samples {
			sorts = append(sorts, append(slices.Clone(sorts[from]), x))
		}
	}
	for _, b := range rows {
		for _, like := range sorts {
			unique(t, b, like)
		}
	}
}

// unique reads the bytes as items of these sorts, and holds P12.5 and P12.6 of them if that is their end.
func unique(t *testing.T, b []byte, like []any) {
	t.Helper()
	r := Read(b)
	items := getAll(r, like)
	if r.End() != api.OK {
		return
	}
	var w Writer
	for _, x := range items {
		put(&w, x)
	}
	if l, e := w.Bytes(); !bytes.Equal(l, b) || e != api.OK {
		t.Fatalf("%x as %v: %x %v", b, items, l, e)
	}
	for n := range b {
		r := Read(b[:n])
		getAll(r, like)
		stands(t, b[:n], r, 0, true, api.ErrCode)
	}
}

// P12.2, P12.3, P12.5: bytes as they come, read as items of all sorts, against plainGet item by item.
func TestBytesAsTheyCome(t *testing.T) {
	d := dice()
	for range 20000 {
		var b []byte
		for range d.IntN(30) {
			b = append(b, []byte{byte(d.Uint32()), byte(d.IntN(4)), 128 + byte(d.IntN(128))}[d.IntN(3)])
		}
		r, rest, failed := Read(b), b, false
		for range 8 {
			like := samples[d.IntN(len(samples))]
			item, many, is := plainGet(rest, like)
			if failed = failed || !is; failed {
				item = zero(like)
			}
			if x := get(r, like); x != item {
				t.Fatalf("%x: %T %v, not %v", b, x, x, item)
			}
			if failed {
				stands(t, b, r, 0, true, api.ErrCode)
				continue
			}
			rest = rest[many:]
			good(t, b, r, len(rest))
		}
		readAll := make([]any, d.IntN(6))
		for i := range readAll {
			readAll[i] = samples[d.IntN(len(samples))]
		}
		unique(t, b, readAll)
	}
}
