package span

import (
	"fmt"
	"math"
	"math/big"
	"regexp"
	"strconv"
	"strings"
	"testing"

	"bedside/api"
)

const most = 1_000_000_000_000_000

// small are all spans that are valid from -3 to 3.
func small() []Span {
	var all []Span
	for lo := int64(-3); lo <= 3; lo++ {
		for hi := lo; hi <= 3; hi++ {
			all = append(all, Span{lo, hi})
		}
	}
	return all
}

// great are spans that are valid and reach the ends of the numbers, or lie next to them.
func great() []Span {
	return []Span{
		{-most, most}, {-most, -most}, {most, most}, {-most, 0}, {0, most}, {-most, -1}, {1, most},
		{-most + 1, most}, {-most, most - 1}, {-most + 1, most - 1}, {most - 1, most}, {-most, -most + 1}, {most - 1, most - 1}, {1 - most, 1 - most},
	}
}

func valids() []Span {
	return append(small(), great()...)
}

// nonumbers are spans with an end that is no number, with Lo above Hi or not.
func nonumbers() []Span {
	return []Span{
		{0, most + 1}, {most, most + 1}, {most + 1, most + 1}, {-most, most + 1}, {-most - 1, 0}, {-most - 1, -most}, {-most - 1, -most - 1}, {-most - 1, most + 1},
		{most + 1, 0}, {most + 1, most}, {0, -most - 1}, {-most, -most - 1}, {most + 1, -most - 1}, {most + 2, most + 1},
		{math.MinInt64, math.MaxInt64}, {math.MaxInt64, math.MinInt64}, {math.MinInt64, 0}, {0, math.MaxInt64}, {0, math.MinInt64}, {math.MaxInt64, 0},
		{math.MinInt64, math.MinInt64}, {math.MaxInt64, math.MaxInt64}, {math.MinInt64, most}, {-most, math.MaxInt64},
	}
}

// upsides are spans of numbers with Lo above Hi.
func upsides() []Span {
	return []Span{{1, 0}, {0, -1}, {1, -1}, {2, 1}, {3, -3}, {most, -most}, {most, most - 1}, {-most + 1, -most}, {most, 0}, {0, -most}}
}

func faulty() []Span {
	return append(nonumbers(), upsides()...)
}

// points are numbers, and what is none, in and around all of these spans.
func points() []int64 {
	all := []int64{math.MinInt64, math.MinInt64 + 1, math.MaxInt64, math.MaxInt64 - 1, 1 << 62, -1 << 62}
	for _, p := range []int64{-most, 0, most} {
		for n := p - 5; n <= p+5; n++ {
			all = append(all, n)
		}
	}
	return all
}

// numbers are those of the points that are numbers.
func numbers() []int64 {
	var all []int64
	for _, n := range points() {
		if -most <= n && n <= most {
			all = append(all, n)
		}
	}
	return all
}

func TestMay(t *testing.T) { // P3.1
	for _, s := range valids() {
		if e := May(s); e != api.OK {
			t.Errorf("May(%v) = %d", s, e)
		}
	}
	for _, s := range nonumbers() {
		if e := May(s); e != api.ErrNumber {
			t.Errorf("May(%v) = %d, not ErrNumber", s, e)
		}
	}
	for _, s := range upsides() {
		if e := May(s); e != api.ErrRange {
			t.Errorf("May(%v) = %d, not ErrRange", s, e)
		}
	}
}

func TestSideExamples(t *testing.T) { // P3.2
	if Below != 0 || In != 1 || Above != 2 {
		t.Errorf("sides are %d, %d, %d", Below, In, Above)
	}
	for _, x := range []struct {
		s    Span
		n    int64
		want uint8
	}{
		{Span{-5, 10}, -6, Below}, {Span{-5, 10}, -5, In}, {Span{-5, 10}, -4, In}, {Span{-5, 10}, 0, In}, {Span{-5, 10}, 9, In}, {Span{-5, 10}, 10, In}, {Span{-5, 10}, 11, Above},
		{Span{}, -1, Below}, {Span{}, 0, In}, {Span{}, 1, Above}, {Span{7, 7}, 6, Below}, {Span{7, 7}, 7, In}, {Span{7, 7}, 8, Above},
		{Span{-most, most}, -most - 1, Below}, {Span{-most, most}, -most, In}, {Span{-most, most}, most, In}, {Span{-most, most}, most + 1, Above},
		{Span{-most, most}, math.MinInt64, Below}, {Span{-most, most}, math.MaxInt64, Above}, {Span{-5, 10}, math.MinInt64, Below}, {Span{-5, 10}, math.MaxInt64, Above},
		// Not valid: Lo is held against n first, then Hi.
		{Span{2, 1}, 0, Below}, {Span{2, 1}, 1, Below}, {Span{2, 1}, 2, Above}, {Span{2, 1}, 3, Above}, {Span{10, -5}, 0, Below}, {Span{10, -5}, 9, Below}, {Span{10, -5}, 10, Above}, {Span{10, -5}, -6, Below},
		{Span{0, most + 1}, -1, Below}, {Span{0, most + 1}, most + 1, In}, {Span{0, most + 1}, most + 2, Above}, {Span{-most - 1, 0}, -most - 1, In}, {Span{-most - 1, 0}, -most - 2, Below},
		{Span{math.MinInt64, math.MaxInt64}, 0, In}, {Span{math.MinInt64, math.MaxInt64}, math.MinInt64, In}, {Span{math.MinInt64, math.MaxInt64}, math.MaxInt64, In},
		{Span{math.MaxInt64, math.MinInt64}, 0, Below}, {Span{math.MaxInt64, math.MinInt64}, math.MaxInt64, Above}, {Span{math.MaxInt64, math.MinInt64}, math.MinInt64, Below},
	} {
		if got := x.s.Side(x.n); got != x.want {
			t.Errorf("%v.Side(%d) = %d, not %d", x.s, x.n, got, x.want)
		}
		if got := x.s.Has(x.n); got != (x.want == In) {
			t.Errorf("%v.Has(%d) = %v", x.s, x.n, got)
		}
	}
}

func TestSideOfAll(t *testing.T) { // P3.2
	for _, s := range append(valids(), faulty()...) {
		for _, n := range points() {
			want := In
			if n > s.Hi {
				want = Above
			}
			if n < s.Lo {
				want = Below
			}
			if got := s.Side(n); got != want {
				t.Errorf("%v.Side(%d) = %d, not %d", s, n, got, want)
			}
			if got := s.Has(n); got != (s.Lo <= n && n <= s.Hi) {
				t.Errorf("%v.Has(%d) = %v", s, n, got)
			}
		}
	}
}

func TestTwoExamples(t *testing.T) { // P3.3
	for _, x := range []struct {
		s, t, meet, hold      Span
		within, back, overlap bool
	}{
		{Span{-5, 10}, Span{10, 20}, Span{10, 10}, Span{-5, 20}, false, false, true},
		{Span{-5, 10}, Span{11, 20}, Span{}, Span{-5, 20}, false, false, false},
		{Span{-5, -4}, Span{10, 20}, Span{}, Span{-5, 20}, false, false, false},
		{Span{0, 5}, Span{3, 9}, Span{3, 5}, Span{0, 9}, false, false, true},
		{Span{1, 2}, Span{0, 5}, Span{1, 2}, Span{0, 5}, true, false, true},
		{Span{0, 2}, Span{0, 5}, Span{0, 2}, Span{0, 5}, true, false, true},
		{Span{3, 5}, Span{0, 5}, Span{3, 5}, Span{0, 5}, true, false, true},
		{Span{0, 5}, Span{0, 5}, Span{0, 5}, Span{0, 5}, true, true, true},
		{Span{4, 4}, Span{4, 4}, Span{4, 4}, Span{4, 4}, true, true, true},
		{Span{4, 4}, Span{5, 5}, Span{}, Span{4, 5}, false, false, false},
		{Span{}, Span{}, Span{}, Span{}, true, true, true},
		{Span{}, Span{-1, 1}, Span{}, Span{-1, 1}, true, false, true},
		{Span{}, Span{1, 1}, Span{}, Span{0, 1}, false, false, false},
		{Span{-most, most}, Span{-most, most}, Span{-most, most}, Span{-most, most}, true, true, true},
		{Span{-most, -most}, Span{most, most}, Span{}, Span{-most, most}, false, false, false},
		{Span{-most, 0}, Span{0, most}, Span{}, Span{-most, most}, false, false, true},
		{Span{most, most}, Span{-most, most}, Span{most, most}, Span{-most, most}, true, false, true},
		{Span{-most, -most}, Span{-most, most}, Span{-most, -most}, Span{-most, most}, true, false, true},
	} {
		check := func(s, t2 Span, within bool) {
			t.Helper()
			if m, overlap := s.Meet(t2); m != x.meet || overlap != x.overlap {
				t.Errorf("%v.Meet(%v) = %v, %v, not %v, %v", s, t2, m, overlap, x.meet, x.overlap)
			}
			if h := s.Hold(t2); h != x.hold {
				t.Errorf("%v.Hold(%v) = %v, not %v", s, t2, h, x.hold)
			}
			if w := s.Within(t2); w != within {
				t.Errorf("%v.Within(%v) = %v", s, t2, w)
			}
		}
		check(x.s, x.t, x.within)
		check(x.t, x.s, x.back)
	}
}

func TestTwoWrong(t *testing.T) { // P3.3
	refused := func(s, u Span) {
		t.Helper()
		if s.Within(u) {
			t.Errorf("%v.Within(%v) is true", s, u)
		}
		if m, overlap := s.Meet(u); m != (Span{}) || overlap {
			t.Errorf("%v.Meet(%v) = %v, %v", s, u, m, overlap)
		}
		if h := s.Hold(u); h != (Span{}) {
			t.Errorf("%v.Hold(%v) = %v", s, u, h)
		}
	}
	for _, f := range faulty() {
		refused(f, f)
		for _, s := range valids() {
			refused(f, s)
			refused(s, f)
		}
		for _, g := range faulty() {
			refused(f, g)
		}
	}
}

// members gives which of the numbers from -3 to 3 are in s, a span of these, as bits.
func members(s Span) uint {
	var bits uint
	for n := s.Lo; n <= s.Hi; n++ {
		bits |= 1 << (n + 3)
	}
	return bits
}

// TestTwoAsSets holds spans against the sets of the numbers in them.
func TestTwoAsSets(t *testing.T) { // P3.3
	for _, s := range small() {
		for _, u := range small() {
			a, b := members(s), members(u)
			if w := s.Within(u); w != (a&^b == 0) {
				t.Errorf("%v.Within(%v) = %v", s, u, w)
			}
			m, overlap := s.Meet(u)
			switch {
			case overlap != (a&b != 0), overlap && members(m) != a&b, !overlap && m != Span{}:
				t.Errorf("%v.Meet(%v) = %v, %v", s, u, m, overlap)
			}
			h := s.Hold(u)
			if members(h)&(a|b) != a|b {
				t.Errorf("%v.Hold(%v) = %v: not both are within", s, u, h)
			}
			for _, v := range small() {
				if members(v)&(a|b) == a|b && members(v)&members(h) != members(h) {
					t.Errorf("%v.Hold(%v) = %v, but both are within %v", s, u, h, v)
				}
			}
		}
	}
}

func TestNearest(t *testing.T) { // P3.4
	for _, x := range []struct {
		s       Span
		n, want int64
	}{
		{Span{-5, 10}, 99, 10}, {Span{-5, 10}, 11, 10}, {Span{-5, 10}, 10, 10}, {Span{-5, 10}, 3, 3}, {Span{-5, 10}, 0, 0}, {Span{-5, 10}, -5, -5}, {Span{-5, 10}, -6, -5}, {Span{-5, 10}, -99, -5},
		{Span{-5, 10}, math.MinInt64, -5}, {Span{-5, 10}, math.MaxInt64, 10}, {Span{-5, 10}, most + 1, 10}, {Span{-5, 10}, -most - 1, -5},
		{Span{7, 7}, 6, 7}, {Span{7, 7}, 7, 7}, {Span{7, 7}, 8, 7}, {Span{7, 9}, 0, 7}, {Span{-9, -7}, 0, -7},
		{Span{-most, most}, most, most}, {Span{-most, most}, -most, -most}, {Span{-most, most}, most + 1, most}, {Span{-most, most}, -most - 1, -most},
		{Span{-most, most}, math.MaxInt64, most}, {Span{-most, most}, math.MinInt64, -most}, {Span{most, most}, -most, most}, {Span{-most, -most}, most, -most},
	} {
		if got := x.s.Nearest(x.n); got != x.want {
			t.Errorf("%v.Nearest(%d) = %d, not %d", x.s, x.n, got, x.want)
		}
	}
}

func TestNearestWrong(t *testing.T) { // P3.4
	for _, s := range faulty() {
		for _, n := range points() {
			if got := s.Nearest(n); got != 0 {
				t.Errorf("%v.Nearest(%d) = %d, not 0", s, n, got)
			}
		}
	}
}

func TestTextExamples(t *testing.T) { // P3.5
	for _, x := range []struct {
		s      Span
		digits uint8
		want   string
	}{
		{Span{-5, 10}, 1, "-0.5..1.0"}, {Span{-5, 10}, 0, "-5..10"}, {Span{}, 0, "0..0"}, {Span{}, 1, "0.0..0.0"}, {Span{}, 6, "0.000000..0.000000"},
		{Span{-3, -2}, 0, "-3..-2"}, {Span{-10, -10}, 1, "-1.0..-1.0"}, {Span{7, 7}, 0, "7..7"}, {Span{5, 1234}, 3, "0.005..1.234"}, {Span{-1234, -5}, 2, "-12.34..-0.05"},
		{Span{-most, most}, 0, "-1000000000000000..1000000000000000"}, {Span{-most, most}, 6, "-1000000000.000000..1000000000.000000"},
		{Span{most, most}, 1, "100000000000000.0..100000000000000.0"}, {Span{-most, -most + 1}, 6, "-1000000000.000000..-999999999.999999"},
	} {
		if got, e := x.s.Text(x.digits); got != x.want || e != api.OK {
			t.Errorf("%v.Text(%d) = %q, %d, not %q", x.s, x.digits, got, e, x.want)
		}
		if got, e := Parse(x.want, x.digits); got != x.s || e != api.OK {
			t.Errorf("Parse(%q, %d) = %v, %d, not %v", x.want, x.digits, got, e, x.s)
		}
	}
}

// decimal writes n with these digits by the library's fractions.
func decimal(n int64, digits uint8) string {
	unit := new(big.Int).Exp(big.NewInt(10), big.NewInt(int64(digits)), nil)
	return new(big.Rat).SetFrac(big.NewInt(n), unit).FloatString(int(digits))
}

func TestTextOfAll(t *testing.T) { // P3.5
	for _, s := range valids() {
		for digits := range uint8(7) {
			want := decimal(s.Lo, digits) + ".." + decimal(s.Hi, digits)
			if got, e := s.Text(digits); got != want || e != api.OK {
				t.Errorf("%v.Text(%d) = %q, %d, not %q", s, digits, got, e, want)
			}
		}
	}
}

func TestTextWrong(t *testing.T) { // P3.5
	refused := func(s Span, digits uint8, want api.Errno) {
		t.Helper()
		if got, e := s.Text(digits); got != "" || e != want {
			t.Errorf("%v.Text(%d) = %q, %d, not %d", s, digits, got, e, want)
		}
	}
	for _, digits := range []uint8{0, 1, 6, 7, 8, 128, 255} {
		for _, s := range nonumbers() {
			refused(s, digits, api.ErrNumber)
		}
		for _, s := range upsides() {
			refused(s, digits, api.ErrRange) // the error of May comes before that of the digits
		}
	}
	for _, digits := range []uint8{7, 8, 128, 255} {
		for _, s := range valids() {
			refused(s, digits, api.ErrNumber)
		}
	}
}

func TestParseWrong(t *testing.T) { // P3.5
	for _, x := range []struct {
		s      string
		digits uint8
		want   api.Errno
	}{
		{"1..0", 0, api.ErrRange}, {"0..-1", 0, api.ErrRange}, {"1..-1", 0, api.ErrRange}, {"-1..-2", 0, api.ErrRange}, {"10..9", 0, api.ErrRange}, {"1.0..0.9", 1, api.ErrRange},
		{"0.000001..0.000000", 6, api.ErrRange}, {"1000000000000000..-1000000000000000", 0, api.ErrRange}, {"1000000000.000000..999999999.999999", 6, api.ErrRange},
		{"", 0, api.ErrNumber}, {"", 1, api.ErrNumber}, {"1", 0, api.ErrNumber}, {"1.0", 1, api.ErrNumber}, {".", 0, api.ErrNumber}, {"..", 0, api.ErrNumber}, {"...", 0, api.ErrNumber}, {"....", 0, api.ErrNumber}, {"-", 0, api.ErrNumber}, {"-..-", 0, api.ErrNumber},
		{"1..", 0, api.ErrNumber}, {"..1", 0, api.ErrNumber}, {"1.0..", 1, api.ErrNumber}, {"..1.0", 1, api.ErrNumber}, {"1.2", 0, api.ErrNumber}, {"1 2", 0, api.ErrNumber}, {"1-2", 0, api.ErrNumber}, {"12", 0, api.ErrNumber}, {"1,,2", 0, api.ErrNumber}, {"1\u20252", 0, api.ErrNumber},
		{"1...2", 0, api.ErrNumber}, {"1....2", 0, api.ErrNumber}, {"1...2", 1, api.ErrNumber}, {"1...20", 1, api.ErrNumber}, {"1.0...2.0", 1, api.ErrNumber}, {"1.0...0", 1, api.ErrNumber}, {"1...0", 1, api.ErrNumber}, {"1...0..2.0", 1, api.ErrNumber}, {"1.0.2.0", 1, api.ErrNumber}, {"1.0 2.0", 1, api.ErrNumber},
		{"1..2..3", 0, api.ErrNumber}, {"1..2..", 0, api.ErrNumber}, {"..1..2", 0, api.ErrNumber}, {"1....3", 0, api.ErrNumber}, {"1.0..2.0..3.0", 1, api.ErrNumber}, {"3..2..1", 0, api.ErrNumber},
		{"1..2", 1, api.ErrNumber}, {"1.0..2", 1, api.ErrNumber}, {"1..2.0", 1, api.ErrNumber}, {"1.0..2.0", 0, api.ErrNumber}, {"1.0..2", 0, api.ErrNumber}, {"1..2.0", 0, api.ErrNumber},
		{"1.0..2.0", 2, api.ErrNumber}, {"1.00..2.00", 1, api.ErrNumber}, {"1.0..2.00", 1, api.ErrNumber}, {"1.00..2.0", 1, api.ErrNumber}, {"1.00..2.0", 2, api.ErrNumber}, {"2.00..1.0", 1, api.ErrNumber}, {"1...20", 1, api.ErrNumber},
		{"01..2", 0, api.ErrNumber}, {"1..02", 0, api.ErrNumber}, {"-0..1", 0, api.ErrNumber}, {"-1..-0", 0, api.ErrNumber}, {"+1..2", 0, api.ErrNumber}, {"1..+2", 0, api.ErrNumber}, {"--1..2", 0, api.ErrNumber}, {"-0.0..0.0", 1, api.ErrNumber}, {".5..1.0", 1, api.ErrNumber}, {"0.5..1.", 1, api.ErrNumber}, {"02..1", 0, api.ErrNumber},
		{" 1..2", 0, api.ErrNumber}, {"1..2 ", 0, api.ErrNumber}, {"1 ..2", 0, api.ErrNumber}, {"1.. 2", 0, api.ErrNumber}, {"1..2\n", 0, api.ErrNumber}, {"1..2\x00", 0, api.ErrNumber}, {"1..x", 0, api.ErrNumber}, {"x..1", 0, api.ErrNumber}, {"1..2\xff", 0, api.ErrNumber}, {"\xff..2", 0, api.ErrNumber}, {"\u0661..\u0662", 0, api.ErrNumber}, {"[1..2]", 0, api.ErrNumber},
		{"0..1000000000000001", 0, api.ErrNumber}, {"-1000000000000001..0", 0, api.ErrNumber}, {"1000000000000001..0", 0, api.ErrNumber}, {"0.000000..1000000000.000001", 6, api.ErrNumber}, {"0..18446744073709551617", 0, api.ErrNumber}, {"18446744073709551616..1", 0, api.ErrNumber}, {"1000000000000002..1000000000000001", 0, api.ErrNumber},
		{"0..0", 7, api.ErrNumber}, {"1..0", 7, api.ErrNumber}, {"0.0000000..1.0000000", 7, api.ErrNumber}, {"1.0000000..0.0000000", 7, api.ErrNumber}, {"0..1", 255, api.ErrNumber}, {"0..1", 128, api.ErrNumber}, {"", 7, api.ErrNumber},
		{strings.Repeat("0..", 1<<16), 0, api.ErrNumber}, {strings.Repeat(".", 1<<16), 0, api.ErrNumber}, {"1.." + strings.Repeat("9", 1<<16), 0, api.ErrNumber}, {strings.Repeat("0", 1<<16) + "..1", 0, api.ErrNumber},
	} {
		if got, e := Parse(x.s, x.digits); got != (Span{}) || e != x.want {
			t.Errorf("Parse(%.50q, %d) = %v, %d, not %d", x.s, x.digits, got, e, x.want)
		}
	}
}

// count reads one end of a text, in its units.
func count(t *testing.T, end string) int64 {
	n, err := strconv.ParseInt(strings.Replace(end, ".", "", 1), 10, 64)
	if err != nil {
		t.Fatal(err)
	}
	return n
}

// TestParseAll parses each short string of the letters that a text is made of: what a text is, a pattern says in another way than the package does. It holds P3.6 too: what is parsed has the input as its text.
func TestParseAll(t *testing.T) { // P3.5, P3.6
	all, from := []string{""}, 0
	for range 9 {
		to := len(all)
		for _, s := range all[from:to] {
			for _, c := range []string{"0", "1", ".", "-"} {
				all = append(all, s+c)
			}
		}
		from = to
	}
	for digits := range uint8(2) { // the shortest text with more of them is longer
		rest := ""
		if digits > 0 {
			rest = fmt.Sprintf(`\.[0-9]{%d}`, digits)
		}
		number := `(-?(?:0|[1-9][0-9]*)` + rest + `)`
		form := regexp.MustCompile(`^` + number + `\.\.` + number + `$`)
		nought := regexp.MustCompile(`^-[0.]*$`)
		parsed := map[api.Errno]int{}
		for _, s := range all {
			want, e := Span{}, api.ErrNumber
			if ends := form.FindStringSubmatch(s); ends != nil && !nought.MatchString(ends[1]) && !nought.MatchString(ends[2]) {
				want, e = Span{count(t, ends[1]), count(t, ends[2])}, api.OK
				if want.Lo > want.Hi {
					want, e = Span{}, api.ErrRange
				}
			}
			got, f := Parse(s, digits)
			if got != want || f != e {
				t.Fatalf("Parse(%q, %d) = %v, %d, not %v, %d", s, digits, got, f, want, e)
			}
			if text, g := got.Text(digits); f == api.OK && (text != s || g != api.OK) {
				t.Fatalf("Parse(%q, %d) = %v, whose text is %q, %d", s, digits, got, text, g)
			}
			parsed[f]++
		}
		if parsed[api.OK] == 0 || parsed[api.ErrRange] == 0 {
			t.Errorf("with %d digits: %v", digits, parsed)
		}
	}
}

func TestRoundTrip(t *testing.T) { // P3.6
	for _, s := range valids() {
		for digits := range uint8(7) {
			text, _ := s.Text(digits)
			if back, e := Parse(text, digits); back != s || e != api.OK {
				t.Errorf("%v with %d digits: %q is parsed as %v, %d", s, digits, text, back, e)
			}
			for others := range uint8(7) {
				u, e := Parse(text, others)
				if (e == api.OK) != (others == digits) {
					t.Errorf("%q with %d digits is parsed as %v, %d", text, others, u, e)
				}
			}
		}
	}
}

func TestInclusion(t *testing.T) { // P3.7
	for _, s := range valids() {
		for _, u := range valids() {
			meet, overlap := s.Meet(u)
			hold := s.Hold(u)
			if overlap && (!meet.Within(s) || !meet.Within(u)) {
				t.Errorf("%v.Meet(%v) = %v, which is not within both", s, u, meet)
			}
			if !s.Within(hold) || !u.Within(hold) {
				t.Errorf("%v.Hold(%v) = %v, within which are not both", s, u, hold)
			}
			for _, n := range numbers() {
				if s.Within(u) && s.Has(n) && !u.Has(n) {
					t.Errorf("%v.Within(%v), but %d is in the first one alone", s, u, n)
				}
				if both := s.Has(n) && u.Has(n); both != (overlap && meet.Has(n)) {
					t.Errorf("%v.Meet(%v) = %v, %v, and %d", s, u, meet, overlap, n)
				}
				if (s.Has(n) || u.Has(n)) && !hold.Has(n) {
					t.Errorf("%v.Hold(%v) = %v, and %d", s, u, hold, n)
				}
			}
		}
	}
}

func TestNearestIsNearest(t *testing.T) { // P3.8
	apart := func(a, b int64) int64 { return max(a-b, b-a) }
	for _, s := range valids() {
		for _, n := range numbers() {
			near := s.Nearest(n)
			if !s.Has(near) {
				t.Errorf("%v.Nearest(%d) = %d, which is not in it", s, n, near)
			}
			if s.Has(n) && near != n {
				t.Errorf("%v.Nearest(%d) = %d, but the number is in it", s, n, near)
			}
			for _, m := range numbers() {
				if s.Has(m) && apart(m, n) < apart(near, n) {
					t.Errorf("%v.Nearest(%d) = %d, but %d is nearer", s, n, near, m)
				}
			}
		}
	}
}
