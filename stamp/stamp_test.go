package stamp

import (
	"fmt"
	"math"
	"math/rand/v2"
	"regexp"
	"slices"
	"strconv"
	"strings"
	"testing"

	"bedside/api"
)

const most = 1 << 20

// edges are numbers on both sides of every bound there is, and the ends of an int.
func edges() []int {
	return []int{0, 1, 2, 3, 9, 10, 11, 99, 100, 12345, most - 2, most - 1, most, most + 1, most + 2, 2 * most, math.MaxInt - 1, math.MaxInt, -1, -2, -most, -most - 1, math.MinInt + 1, math.MinInt}
}

// pairs are the stamps of all edges.
func pairs() []api.Stamp {
	var all []api.Stamp
	for _, d := range edges() {
		for _, s := range edges() {
			all = append(all, api.Stamp{Desc: d, State: s})
		}
	}
	return all
}

// valid says by the chapter's words what a valid stamp is.
func valid(s api.Stamp) bool {
	never := s.Desc == 0 && s.State == 0
	existed := s.Desc >= 1 && s.Desc <= most && s.State >= 1 && s.State <= most
	return never || existed
}

// allKinds are all numbers that a kind can be.
func allKinds() []uint8 {
	all := make([]uint8, 256)
	for i := range all {
		all[i] = uint8(i)
	}
	return all
}

// plainNext says by the chapter's words what Next gives.
func plainNext(s api.Stamp, kind uint8) (api.Stamp, api.Errno) {
	if !valid(s) {
		return api.Stamp{}, api.ErrArg
	}
	if s.Desc == 0 && kind != api.CgCreate {
		return api.Stamp{}, api.ErrArg
	}
	switch kind {
	case api.CgCreate:
		s.Desc++
		s.State++
	case api.CgDesc, api.CgDelete:
		s.Desc++
	case api.CgState:
		s.State++
	default:
		return api.Stamp{}, api.ErrArg
	}
	if s.Desc > most || s.State > most {
		return api.Stamp{}, api.ErrFull
	}
	return s, api.OK
}

// plainAll makes the changes one by one, up to the first one that is not possible.
func plainAll(s api.Stamp, kinds []uint8) (api.Stamp, int, api.Errno) {
	n := 0
	for n < len(kinds) {
		after, e := plainNext(s, kinds[n])
		if e != api.OK {
			return s, n, e
		}
		s = after
		n++
	}
	return s, n, api.OK
}

// dice gives a stamp whose numbers are those that count.
func dice(r *rand.Rand) api.Stamp {
	return api.Stamp{Desc: 1 + r.IntN(most), State: 1 + r.IntN(most)}
}

// P15.1: the constants are as the chapter lists them.
func TestRelations(t *testing.T) {
	if Same != 0 || Ahead != 1 || Behind != 2 || Beside != 3 {
		t.Errorf("%d %d %d %d", Same, Ahead, Behind, Beside)
	}
}

// P15.1: a stamp is valid if both numbers are 0, or both from 1 to MaxVersions.
func TestMay(t *testing.T) {
	for _, s := range pairs() {
		if May(s) != valid(s) {
			t.Errorf("May(%v) is %t", s, May(s))
		}
	}
	for _, x := range []struct {
		s    api.Stamp
		want bool
	}{
		{api.Stamp{}, true}, {api.Stamp{Desc: 1, State: 1}, true}, {api.Stamp{Desc: most, State: most}, true},
		{api.Stamp{Desc: 1}, false}, {api.Stamp{State: 1}, false}, {api.Stamp{Desc: most}, false}, {api.Stamp{State: most}, false},
		{api.Stamp{Desc: most + 1, State: 1}, false}, {api.Stamp{Desc: 1, State: most + 1}, false},
		{api.Stamp{Desc: -1, State: -1}, false}, {api.Stamp{Desc: -1, State: 1}, false}, {api.Stamp{Desc: 1, State: -1}, false},
		{api.Stamp{Desc: -1}, false}, {api.Stamp{State: -1}, false},
		{api.Stamp{Desc: math.MinInt, State: math.MinInt}, false}, {api.Stamp{Desc: math.MaxInt, State: math.MaxInt}, false},
	} {
		if May(x.s) != x.want {
			t.Errorf("May(%v) is %t", x.s, May(x.s))
		}
	}
}

// order says for each way in which two numbers can stand to each other what the relation is: less, equal, greater in Desc, and the same in State.
var order = [3][3]uint8{
	{Ahead, Ahead, Beside},
	{Ahead, Same, Behind},
	{Beside, Behind, Behind},
}

func way(a, b int) int {
	switch {
	case a < b:
		return 0
	case a == b:
		return 1
	}
	return 2
}

// P15.1: Of, for any two stamps, valid ones or not.
func TestOf(t *testing.T) {
	all := pairs()
	mirror := map[uint8]uint8{Same: Same, Ahead: Behind, Behind: Ahead, Beside: Beside}
	for _, a := range all {
		for _, b := range all {
			want := order[way(a.Desc, b.Desc)][way(a.State, b.State)]
			if got := Of(a, b); got != want {
				t.Fatalf("Of(%v, %v) = %d, not %d", a, b, got, want)
			}
			if got := Of(b, a); got != mirror[want] {
				t.Fatalf("Of(%v, %v) = %d, not %d", b, a, got, mirror[want])
			}
		}
	}
}

// P15.1: Of, as the chapter's examples and the words say.
func TestOfExamples(t *testing.T) {
	for _, x := range []struct {
		a, b api.Stamp
		want uint8
	}{
		{api.Stamp{}, api.Stamp{}, Same},
		{api.Stamp{}, api.Stamp{Desc: 1, State: 1}, Ahead},
		{api.Stamp{Desc: 1, State: 1}, api.Stamp{}, Behind},
		{api.Stamp{Desc: 1, State: 2}, api.Stamp{Desc: 2, State: 1}, Beside},
		{api.Stamp{Desc: 2, State: 1}, api.Stamp{Desc: 1, State: 2}, Beside},
		{api.Stamp{Desc: 1, State: 1}, api.Stamp{Desc: 1, State: 2}, Ahead},
		{api.Stamp{Desc: 1, State: 2}, api.Stamp{Desc: 2, State: 2}, Ahead},
		{api.Stamp{Desc: 3, State: 3}, api.Stamp{Desc: 2, State: 2}, Behind},
		{api.Stamp{Desc: math.MinInt, State: 0}, api.Stamp{Desc: math.MaxInt, State: 0}, Ahead},
		{api.Stamp{Desc: math.MaxInt, State: math.MinInt}, api.Stamp{Desc: math.MinInt, State: math.MaxInt}, Beside},
		{api.Stamp{Desc: -1, State: 5}, api.Stamp{Desc: -1, State: 5}, Same},
	} {
		if got := Of(x.a, x.b); got != x.want {
			t.Errorf("Of(%v, %v) = %d, not %d", x.a, x.b, got, x.want)
		}
	}
}

// P15.2: Next, from each stamp of edges with each kind.
func TestNext(t *testing.T) {
	for _, s := range pairs() {
		for _, kind := range allKinds() {
			want, wantErr := plainNext(s, kind)
			if got, e := Next(s, kind); got != want || e != wantErr {
				t.Fatalf("Next(%v, %d) = %v, %d, not %v, %d", s, kind, got, e, want, wantErr)
			}
		}
	}
}

// P15.2: each kind from the zero stamp, an ordinary one, and full ones; what is not valid.
func TestNextExamples(t *testing.T) {
	for _, x := range []struct {
		s    api.Stamp
		kind uint8
		want api.Stamp
		e    api.Errno
	}{
		{api.Stamp{}, api.CgCreate, api.Stamp{Desc: 1, State: 1}, api.OK},
		{api.Stamp{}, api.CgDesc, api.Stamp{}, api.ErrArg},
		{api.Stamp{}, api.CgState, api.Stamp{}, api.ErrArg},
		{api.Stamp{}, api.CgDelete, api.Stamp{}, api.ErrArg},
		{api.Stamp{}, 0, api.Stamp{}, api.ErrArg},
		{api.Stamp{}, 5, api.Stamp{}, api.ErrArg},
		{api.Stamp{}, 255, api.Stamp{}, api.ErrArg},
		{api.Stamp{Desc: 7, State: 4}, api.CgCreate, api.Stamp{Desc: 8, State: 5}, api.OK},
		{api.Stamp{Desc: 7, State: 4}, api.CgDesc, api.Stamp{Desc: 8, State: 4}, api.OK},
		{api.Stamp{Desc: 7, State: 4}, api.CgState, api.Stamp{Desc: 7, State: 5}, api.OK},
		{api.Stamp{Desc: 7, State: 4}, api.CgDelete, api.Stamp{Desc: 8, State: 4}, api.OK},
		{api.Stamp{Desc: 7, State: 4}, 0, api.Stamp{}, api.ErrArg},
		{api.Stamp{Desc: 7, State: 4}, 5, api.Stamp{}, api.ErrArg},
		{api.Stamp{Desc: 7, State: 4}, 255, api.Stamp{}, api.ErrArg},
		{api.Stamp{Desc: most, State: 4}, api.CgCreate, api.Stamp{}, api.ErrFull},
		{api.Stamp{Desc: most, State: 4}, api.CgDesc, api.Stamp{}, api.ErrFull},
		{api.Stamp{Desc: most, State: 4}, api.CgState, api.Stamp{Desc: most, State: 5}, api.OK},
		{api.Stamp{Desc: most, State: 4}, api.CgDelete, api.Stamp{}, api.ErrFull},
		{api.Stamp{Desc: 7, State: most}, api.CgCreate, api.Stamp{}, api.ErrFull},
		{api.Stamp{Desc: 7, State: most}, api.CgDesc, api.Stamp{Desc: 8, State: most}, api.OK},
		{api.Stamp{Desc: 7, State: most}, api.CgState, api.Stamp{}, api.ErrFull},
		{api.Stamp{Desc: 7, State: most}, api.CgDelete, api.Stamp{Desc: 8, State: most}, api.OK},
		{api.Stamp{Desc: most, State: most}, api.CgCreate, api.Stamp{}, api.ErrFull},
		{api.Stamp{Desc: most, State: most}, api.CgDesc, api.Stamp{}, api.ErrFull},
		{api.Stamp{Desc: most, State: most}, api.CgState, api.Stamp{}, api.ErrFull},
		{api.Stamp{Desc: most, State: most}, api.CgDelete, api.Stamp{}, api.ErrFull},
		{api.Stamp{Desc: most, State: most}, 0, api.Stamp{}, api.ErrArg},
		{api.Stamp{Desc: most, State: most}, 5, api.Stamp{}, api.ErrArg},
		{api.Stamp{Desc: most - 1, State: most - 1}, api.CgCreate, api.Stamp{Desc: most, State: most}, api.OK},
		{api.Stamp{Desc: 1}, api.CgCreate, api.Stamp{}, api.ErrArg},
		{api.Stamp{State: 1}, api.CgCreate, api.Stamp{}, api.ErrArg},
		{api.Stamp{Desc: -1, State: 1}, api.CgCreate, api.Stamp{}, api.ErrArg},
		{api.Stamp{Desc: most + 1, State: 1}, api.CgState, api.Stamp{}, api.ErrArg},
		{api.Stamp{Desc: math.MaxInt, State: math.MaxInt}, api.CgCreate, api.Stamp{}, api.ErrArg},
	} {
		if got, e := Next(x.s, x.kind); got != x.want || e != x.e {
			t.Errorf("Next(%v, %d) = %v, %d, not %v, %d", x.s, x.kind, got, e, x.want, x.e)
		}
	}
}

// P15.2: the chapter's example: created, a state set, deleted, created again.
func TestLife(t *testing.T) {
	var s api.Stamp
	for i, x := range []struct {
		kind uint8
		want string
	}{{api.CgCreate, "1.1"}, {api.CgState, "1.2"}, {api.CgDelete, "2.2"}, {api.CgCreate, "3.3"}} {
		var e api.Errno
		s, e = Next(s, x.kind)
		if text, f := Text(s); e != api.OK || f != api.OK || text != x.want {
			t.Errorf("%d: %v, %d, %q, not %q", i, s, e, text, x.want)
		}
	}
	if got, n, e := All(api.Stamp{}, []uint8{api.CgCreate, api.CgState, api.CgDelete, api.CgCreate}); got != s || n != 4 || e != api.OK {
		t.Errorf("All: %v, %d, %d", got, n, e)
	}
}

// P15.2: All, with the first, a middle, the last change not possible, and up to MaxVersions and past it.
func TestAllExamples(t *testing.T) {
	for i, x := range []struct {
		s     api.Stamp
		kinds []uint8
		want  api.Stamp
		n     int
		e     api.Errno
	}{
		{api.Stamp{}, nil, api.Stamp{}, 0, api.OK},
		{api.Stamp{}, []uint8{}, api.Stamp{}, 0, api.OK},
		{api.Stamp{Desc: 7, State: 4}, nil, api.Stamp{Desc: 7, State: 4}, 0, api.OK},
		{api.Stamp{Desc: most, State: most}, []uint8{}, api.Stamp{Desc: most, State: most}, 0, api.OK},
		{api.Stamp{Desc: 1}, nil, api.Stamp{Desc: 1}, 0, api.OK},
		{api.Stamp{Desc: 1}, []uint8{1}, api.Stamp{Desc: 1}, 0, api.ErrArg},
		{api.Stamp{Desc: -3, State: most + 1}, []uint8{1, 2}, api.Stamp{Desc: -3, State: most + 1}, 0, api.ErrArg},
		{api.Stamp{}, []uint8{2}, api.Stamp{}, 0, api.ErrArg},
		{api.Stamp{}, []uint8{4, 1}, api.Stamp{}, 0, api.ErrArg},
		{api.Stamp{Desc: 7, State: 4}, []uint8{0, 1, 2}, api.Stamp{Desc: 7, State: 4}, 0, api.ErrArg},
		{api.Stamp{Desc: 7, State: 4}, []uint8{1, 5, 2}, api.Stamp{Desc: 8, State: 5}, 1, api.ErrArg},
		{api.Stamp{Desc: 7, State: 4}, []uint8{1, 2, 255}, api.Stamp{Desc: 9, State: 5}, 2, api.ErrArg},
		{api.Stamp{Desc: 7, State: 4}, []uint8{1, 2, 3, 4}, api.Stamp{Desc: 10, State: 6}, 4, api.OK},
		{api.Stamp{Desc: most - 1, State: 4}, []uint8{2}, api.Stamp{Desc: most, State: 4}, 1, api.OK},
		{api.Stamp{Desc: most - 1, State: 4}, []uint8{2, 4}, api.Stamp{Desc: most, State: 4}, 1, api.ErrFull},
		{api.Stamp{Desc: most - 1, State: 4}, []uint8{2, 3, 3, 2, 3}, api.Stamp{Desc: most, State: 6}, 3, api.ErrFull},
		{api.Stamp{Desc: 7, State: most - 2}, []uint8{3, 3, 2, 4, 1, 0}, api.Stamp{Desc: 9, State: most}, 4, api.ErrFull},
		{api.Stamp{Desc: most, State: 4}, []uint8{1}, api.Stamp{Desc: most, State: 4}, 0, api.ErrFull},
		{api.Stamp{Desc: most, State: most}, []uint8{9, 1}, api.Stamp{Desc: most, State: most}, 0, api.ErrArg},
		{api.Stamp{Desc: most, State: most}, []uint8{1, 9}, api.Stamp{Desc: most, State: most}, 0, api.ErrFull},
	} {
		if got, n, e := All(x.s, x.kinds); got != x.want || n != x.n || e != x.e {
			t.Errorf("%d: All(%v, %v) = %v, %d, %d, not %v, %d, %d", i, x.s, x.kinds, got, n, e, x.want, x.n, x.e)
		}
	}
}

// P15.2: All, for all short lists of kinds from stamps around the bounds; the lists stay as they are.
func TestAllShortLists(t *testing.T) {
	starts := []api.Stamp{{}, {Desc: 1, State: 1}, {Desc: 5, State: 2}, {Desc: most - 1, State: most - 2}, {Desc: most, State: 3}, {Desc: 3, State: most}, {Desc: 1}, {Desc: most + 1, State: 1}}
	lists := [][]uint8{nil}
	for from := 0; len(lists[len(lists)-1]) < 4; from++ {
		for kind := range uint8(6) {
			lists = append(lists, append(slices.Clone(lists[from]), kind))
		}
	}
	for _, s := range starts {
		for _, kinds := range lists {
			before := slices.Clone(kinds)
			want, wantN, wantErr := plainAll(s, kinds)
			if got, n, e := All(s, kinds); got != want || n != wantN || e != wantErr {
				t.Fatalf("All(%v, %v) = %v, %d, %d, not %v, %d, %d", s, kinds, got, n, e, want, wantN, wantErr)
			}
			if !slices.Equal(kinds, before) {
				t.Fatalf("All changed %v to %v", before, kinds)
			}
		}
	}
}

// P15.2: All, up to MaxVersions from the zero stamp; what stands behind the list in its array is not touched.
func TestAllLong(t *testing.T) {
	kinds := slices.Repeat([]uint8{api.CgCreate}, most+3)
	if got, n, e := All(api.Stamp{}, kinds[:most]); got != (api.Stamp{Desc: most, State: most}) || n != most || e != api.OK {
		t.Errorf("%v, %d, %d", got, n, e)
	}
	if got, n, e := All(api.Stamp{}, kinds); got != (api.Stamp{Desc: most, State: most}) || n != most || e != api.ErrFull {
		t.Errorf("%v, %d, %d", got, n, e)
	}
	if slices.ContainsFunc(kinds, func(k uint8) bool { return k != api.CgCreate }) {
		t.Error("the list was changed")
	}
}

// P15.2: what is done to the list after All, or done by another call between, changes no answer.
func TestAllKeepsNothing(t *testing.T) {
	kinds := []uint8{1, 3, 2}
	first, _, _ := All(api.Stamp{}, kinds)
	kinds[0], kinds[1], kinds[2] = 9, 9, 9
	All(api.Stamp{Desc: 5, State: 5}, []uint8{4, 4, 9})
	if again, n, e := All(api.Stamp{}, []uint8{1, 3, 2}); again != first || n != 3 || e != api.OK || first != (api.Stamp{Desc: 2, State: 2}) {
		t.Errorf("%v, %v, %d, %d", first, again, n, e)
	}
}

// P15.3: Text, for valid stamps and others.
func TestText(t *testing.T) {
	for _, s := range pairs() {
		text, e := Text(s)
		if !valid(s) {
			if text != "" || e != api.ErrArg {
				t.Errorf("Text(%v) = %q, %d", s, text, e)
			}
			continue
		}
		if want := fmt.Sprintf("%d.%d", s.Desc, s.State); text != want || e != api.OK {
			t.Errorf("Text(%v) = %q, %d, not %q", s, text, e, want)
		}
	}
	for want, s := range map[string]api.Stamp{"0.0": {}, "1.1": {Desc: 1, State: 1}, "10.9": {Desc: 10, State: 9}, "1048576.1": {Desc: most, State: 1}, "1.1048576": {Desc: 1, State: most}, "1048576.1048576": {Desc: most, State: most}} {
		if text, e := Text(s); text != want || e != api.OK {
			t.Errorf("Text(%v) = %q, %d, not %q", s, text, e, want)
		}
	}
}

var form = regexp.MustCompile(`\A(0|[1-9][0-9]{0,6})\.(0|[1-9][0-9]{0,6})\z`)

// plainParse says by the form of a text what Parse gives.
func plainParse(text string) (api.Stamp, api.Errno) {
	m := form.FindStringSubmatch(text)
	if m == nil {
		return api.Stamp{}, api.ErrCode
	}
	desc, _ := strconv.Atoi(m[1])
	state, _ := strconv.Atoi(m[2])
	s := api.Stamp{Desc: desc, State: state}
	if !valid(s) {
		return api.Stamp{}, api.ErrCode
	}
	return s, api.OK
}

func checkParse(t *testing.T, text string) {
	t.Helper()
	want, wantErr := plainParse(text)
	if got, e := Parse(text); got != want || e != wantErr {
		t.Fatalf("Parse(%.40q) = %v, %d, not %v, %d", text, got, e, want, wantErr)
	}
}

// P15.3: what is no text of a valid stamp is ErrCode, with a zero stamp beside it.
func TestParseWrong(t *testing.T) {
	for _, text := range []string{
		"", ".", "..", "0", "1", "11", "1.", ".1", "0.", ".0", "1.1.", ".1.1", "1..1", "1.1.1", "0.0.0",
		"01.1", "1.01", "00.0", "0.00", "00.00", "001.001", "01048576.1",
		"+1.1", "1.+1", "-1.1", "1.-1", "-0.0", "0.-0", "-0.-0", "+0.0", "-.-", "--1.1",
		" 1.1", "1.1 ", "1. 1", "1 .1", " ", "1 1", "\t1.1", "1.1\n", "1.1\r\n", "\u00a01.1", "1.1\x00", "\x001.1",
		"a.b", "a", "1.a", "a.1", "1a.1", "1.1a", "0x1.1", "1e1.1", "1_0.1", "1.1_0", "1,1", "1:1", "1\u20241", "1\u066b1",
		"\u0661.\u0661", "\uff11.\uff11", "1.\uff11", "\u00b9.1", "\xff.1", "1.\xff", "1\xff1",
		"0.1", "1.0", "0.1048576", "1048576.0",
		"1048577.1", "1.1048577", "1048577.1048577", "9999999.1", "10000000.1", "1.10000000", "0.1048577", "2097153.1",
		"9223372036854775807.1", "9223372036854775808.1", "18446744073709551616.1", "18446744073709551617.18446744073709551617", "1.18446744073709551617", "4294967297.1", "1.4294967297", "99999999999999999999999999.1", "1.99999999999999999999999999",
		"true", "NaN.NaN", "Inf.1", "1048576.10485760", "1048576.1048576 ", "11048576.1048576",
	} {
		if got, e := Parse(text); got != (api.Stamp{}) || e != api.ErrCode {
			t.Errorf("Parse(%q) = %v, %d", text, got, e)
		}
		checkParse(t, text)
	}
}

// P15.3: very long texts are none.
func TestParseLong(t *testing.T) {
	for _, n := range []int{13, 14, 15, 16, 17, 100, 1 << 20} {
		zeros, ones := strings.Repeat("0", n), strings.Repeat("1", n)
		for _, text := range []string{zeros + ".0", "0." + zeros, zeros + "1.1", "1." + zeros + "1", ones, ones + ".1", "1." + ones, "1.1" + zeros, "1.1" + strings.Repeat(" ", n), strings.Repeat(".", n), strings.Repeat("1.", n), "1.1" + strings.Repeat("\x00", n)} {
			if got, e := Parse(text); got != (api.Stamp{}) || e != api.ErrCode {
				t.Errorf("Parse(%.40q), %d bytes, = %v, %d", text, len(text), got, e)
			}
		}
	}
}

// P15.3, P15.6: all short strings of some bytes are parsed as their form says.
func TestParseShort(t *testing.T) {
	alphabet := "0129.+- a"
	texts := []string{""}
	for from := 0; len(texts[from]) < 5; from++ {
		for i := range len(alphabet) {
			texts = append(texts, texts[from]+alphabet[i:i+1])
		}
	}
	for _, text := range texts {
		checkParse(t, text)
	}
	for b := range 256 {
		for _, text := range []string{string([]byte{byte(b)}), string([]byte{byte(b), '.', '1'}), string([]byte{'1', byte(b), '1'}), string([]byte{'1', '.', byte(b)}), string([]byte{byte(b), '1', '.', '1'}), string([]byte{'1', '.', '1', byte(b)}), string([]byte{'1', '.', byte(b), '1'})} {
			checkParse(t, text)
		}
	}
}

// P15.3, P15.6: texts, and what becomes of them when a byte is taken out, put in, or changed.
func TestParseAltered(t *testing.T) {
	for _, text := range []string{"0.0", "1.1", "9.10", "12.345", "1048576.1", "1.1048576", "1048575.999999", "1048576.1048576"} {
		checkParse(t, text)
		for i := range len(text) + 1 {
			checkParse(t, text[:i])
			checkParse(t, text[i:])
			if i < len(text) {
				checkParse(t, text[:i]+text[i+1:])
			}
			for _, b := range "0123456789.+- _a" {
				checkParse(t, text[:i]+string(b)+text[i:])
				if i < len(text) {
					checkParse(t, text[:i]+string(b)+text[i+1:])
				}
			}
		}
	}
}

// P15.4: a stamp is Ahead of what a change makes of it, whatever the kind; what it was is not changed by that.
func TestGrowth(t *testing.T) {
	r := rand.New(rand.NewPCG(15, 4))
	all := pairs()
	for range 20000 {
		all = append(all, dice(r))
	}
	for _, s := range all {
		for _, kind := range allKinds()[:6] {
			next, e := Next(s, kind)
			if e != api.OK {
				continue
			}
			if !May(next) || Of(s, next) != Ahead || Of(next, s) != Behind {
				t.Fatalf("Next(%v, %d) = %v: %d, %d", s, kind, next, Of(s, next), Of(next, s))
			}
		}
	}
}

// P15.4: no two stamps on the way of many changes are the same, and each is Ahead of all later ones.
func TestNoneAgain(t *testing.T) {
	r := rand.New(rand.NewPCG(15, 40))
	for range 20 {
		way := []api.Stamp{{}}
		seen := map[api.Stamp]bool{{}: true}
		for len(way) < 300 {
			next, e := Next(way[len(way)-1], 1+uint8(r.IntN(4)))
			if e == api.ErrArg && len(way) == 1 {
				continue
			}
			if e != api.OK || seen[next] {
				t.Fatalf("%v, %d, seen %t", next, e, seen[next])
			}
			seen[next] = true
			for _, s := range way {
				if Of(s, next) != Ahead {
					t.Fatalf("%v is not Ahead of %v", s, next)
				}
			}
			way = append(way, next)
		}
	}
}

// P15.5: from the zero stamp, Desc counts the changes other than CgState, and State those that are CgCreate or CgState.
func TestCounting(t *testing.T) {
	r := rand.New(rand.NewPCG(15, 5))
	for range 5000 {
		kinds := make([]uint8, r.IntN(40))
		for i := range kinds {
			kinds[i] = 1 + uint8(r.IntN(4))
			if r.IntN(60) == 0 {
				kinds[i] = uint8(r.IntN(256))
			}
		}
		if len(kinds) > 0 && r.IntN(10) > 0 {
			kinds[0] = api.CgCreate
		}
		got, n, _ := All(api.Stamp{}, kinds)
		var want api.Stamp
		for _, kind := range kinds[:n] {
			if kind != api.CgState {
				want.Desc++
			}
			if kind == api.CgCreate || kind == api.CgState {
				want.State++
			}
		}
		if got != want {
			t.Fatalf("All of %v: %v after %d, not %v", kinds, got, n, want)
		}
	}
}

// P15.6: what has a text is parsed back from it, and no two stamps have the same text.
func TestRoundTrip(t *testing.T) {
	r := rand.New(rand.NewPCG(15, 6))
	all := pairs()
	for d := range 40 {
		for s := range 40 {
			all = append(all, api.Stamp{Desc: d, State: s})
		}
	}
	for range 20000 {
		all = append(all, dice(r))
	}
	texts := map[string]api.Stamp{}
	for _, s := range all {
		text, e := Text(s)
		if e != api.OK {
			continue
		}
		if back, e := Parse(text); back != s || e != api.OK {
			t.Fatalf("%v has the text %q, which is parsed as %v, %d", s, text, back, e)
		}
		if other, there := texts[text]; there && other != s {
			t.Fatalf("%v and %v have the text %q", s, other, text)
		}
		texts[text] = s
	}
}

// P15.6: the text of what was parsed is the input, for thrown strings too.
func TestParsedAgain(t *testing.T) {
	r := rand.New(rand.NewPCG(15, 66))
	parsed := 0
	for range 200000 {
		b := make([]byte, r.IntN(17))
		for i := range b {
			b[i] = "0123456789"[r.IntN(10)]
			if r.IntN(40) == 0 {
				b[i] = ".+- a"[r.IntN(5)]
			}
		}
		if len(b) > 0 {
			b[r.IntN(len(b))] = '.'
		}
		s, e := Parse(string(b))
		if e != api.OK {
			checkParse(t, string(b))
			continue
		}
		parsed++
		if text, e := Text(s); text != string(b) || e != api.OK {
			t.Fatalf("%q is parsed as %v, whose text is %q, %d", b, s, text, e)
		}
	}
	if parsed < 1000 {
		t.Errorf("only %d strings were texts", parsed)
	}
}
