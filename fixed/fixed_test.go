package fixed

import (
	"fmt"
	"math"
	"math/big"
	"regexp"
	"strings"
	"testing"

	"bedside/api"
)

const most = 1_000_000_000_000_000

// edges are the numbers at which something may go wrong: around 0, halves, powers of 10, and the ends.
func edges() []int64 {
	all := []int64{0}
	for _, n := range []int64{1, 2, 3, 4, 5, 6, 7, 9, 12, 49, 51, 55, 95, 1234, 1249, 1250, 1251, 123456789012345} {
		all = append(all, n, -n)
	}
	for p := int64(10); p <= most; p *= 10 {
		for _, n := range []int64{p - 1, p, p + 1, p / 2, p/2 - 1, p/2 + 1, 5 * p, p + p/2} {
			if n <= most {
				all = append(all, n, -n)
			}
		}
	}
	return all
}

// outside are numbers out of range.
func outside() []int64 {
	return []int64{most + 1, -most - 1, 10 * most, -10 * most, math.MaxInt64, math.MinInt64, math.MinInt64 + 1}
}

// tooMany are digits out of range.
func tooMany() []uint8 {
	return []uint8{7, 8, 17, 128, 254, 255}
}

// value gives what n with these digits stands for.
func value(n int64, digits uint8) *big.Rat {
	unit := new(big.Int).Exp(big.NewInt(10), big.NewInt(int64(digits)), nil)
	return new(big.Rat).SetFrac(big.NewInt(n), unit)
}

func TestMay(t *testing.T) { // P2.1
	for _, n := range edges() {
		if !May(n) {
			t.Errorf("May(%d) is false", n)
		}
	}
	for _, n := range outside() {
		if May(n) {
			t.Errorf("May(%d) is true", n)
		}
	}
}

func TestUnit(t *testing.T) { // P2.1
	want := int64(1)
	for digits := range uint8(7) {
		if got := Unit(digits); got != want {
			t.Errorf("Unit(%d) = %d, not %d", digits, got, want)
		}
		want *= 10
	}
	for digits := 7; digits <= 255; digits++ {
		if got := Unit(uint8(digits)); got != 0 {
			t.Errorf("Unit(%d) = %d, not 0", digits, got)
		}
	}
}

func TestTextExamples(t *testing.T) { // P2.2
	for _, x := range []struct {
		n      int64
		digits uint8
		want   string
	}{
		{-1234, 2, "-12.34"}, {5, 3, "0.005"}, {0, 1, "0.0"}, {0, 0, "0"}, {0, 6, "0.000000"},
		{-5, 3, "-0.005"}, {-1, 6, "-0.000001"}, {10, 1, "1.0"}, {100, 0, "100"}, {-10, 0, "-10"},
		{7, 0, "7"}, {999999, 6, "0.999999"}, {1000000, 6, "1.000000"}, {-1050, 2, "-10.50"},
		{most, 0, "1000000000000000"}, {-most, 0, "-1000000000000000"},
		{most, 6, "1000000000.000000"}, {-most, 6, "-1000000000.000000"},
		{most - 1, 6, "999999999.999999"}, {-most + 1, 1, "-99999999999999.9"},
	} {
		if got, e := Text(x.n, x.digits); got != x.want || e != api.OK {
			t.Errorf("Text(%d, %d) = %q, %d, not %q", x.n, x.digits, got, e, x.want)
		}
		if got, e := Parse(x.want, x.digits); got != x.n || e != api.OK {
			t.Errorf("Parse(%q, %d) = %d, %d, not %d", x.want, x.digits, got, e, x.n)
		}
	}
}

func TestTextOfNumbers(t *testing.T) { // P2.2, held against the library's decimals
	for _, n := range edges() {
		for digits := range uint8(7) {
			want := value(n, digits).FloatString(int(digits))
			if got, e := Text(n, digits); got != want || e != api.OK {
				t.Errorf("Text(%d, %d) = %q, %d, not %q", n, digits, got, e, want)
			}
		}
	}
}

func TestTextWrong(t *testing.T) { // P2.2
	refused := func(n int64, digits uint8) {
		t.Helper()
		if got, e := Text(n, digits); got != "" || e != api.ErrNumber {
			t.Errorf("Text(%d, %d) = %q, %d", n, digits, got, e)
		}
	}
	for _, n := range outside() {
		for digits := range uint8(7) {
			refused(n, digits)
		}
		refused(n, 7)
	}
	for _, digits := range tooMany() {
		refused(0, digits)
		refused(1, digits)
		refused(-most, digits)
	}
}

func TestParseWrong(t *testing.T) { // P2.2
	for _, x := range []struct {
		s      string
		digits uint8
	}{
		{"", 0}, {"", 2}, {"-", 0}, {".", 0}, {".", 1}, {"-.", 1},
		{"012", 0}, {"00", 0}, {"00.5", 1}, {"-01", 0}, {"-0", 0}, {"-0.0", 1}, {"-0.000000", 6},
		{"1.", 0}, {"1.", 1}, {".5", 1}, {"-.5", 1}, {"0.", 0}, {"0.", 1}, {"1.0", 0}, {"1", 1}, {"15", 1},
		{"1.5", 0}, {"1.5", 2}, {"1.50", 1}, {"1.500", 2}, {"1.5.0", 2}, {"1.0.0", 1}, {"1..0", 1}, {"15.", 1},
		{"+1", 0}, {"+1.5", 1}, {"--1", 0}, {"1-", 0}, {"1-1", 0}, {"- 1", 0}, {" 1", 0}, {"1 ", 0}, {"1\n", 0}, {"1\x00", 0},
		{"1e3", 0}, {"0x1", 0}, {"1_000", 0}, {"1,5", 1}, {"a", 0}, {"NaN", 0}, {"\u0661", 0}, {"\uff11", 0}, {"\xff", 0}, {"1\xff", 0}, {"\u22121", 0},
		{"1000000000000001", 0}, {"-1000000000000001", 0}, {"1000000000.000001", 6}, {"-1000000000.000001", 6}, {"100000000000000.1", 1},
		{"10000000000000000", 0}, {"999999999999999999", 0}, {"9223372036854775808", 0}, {"-9223372036854775808", 0},
		{"18446744073709551616", 0}, {"18446744073709551617", 0}, {"99999999999999999999", 0}, {"-18446744073709551617", 0},
		{"100000000000000000000000000000000000000000", 0}, {strings.Repeat("0", 100), 0}, {"1" + strings.Repeat("0", 64), 0}, {strings.Repeat("9", 1<<16), 0},
		{"1.0000000", 7}, {"1", 7}, {"0", 255}, {"0.0000000", 7}, {"0.000000", 7},
	} {
		if n, e := Parse(x.s, x.digits); n != 0 || e != api.ErrNumber {
			t.Errorf("Parse(%.40q, %d) = %d, %d", x.s, x.digits, n, e)
		}
	}
}

// TestParseAll parses each short string of the letters that a text is made of, and one that none has: what a text is, a pattern says in another way than the package does.
func TestParseAll(t *testing.T) { // P2.2
	all, from := []string{""}, 0
	for range 6 {
		to := len(all)
		for _, s := range all[from:to] {
			for _, c := range []string{"0", "1", "9", ".", "-", "x"} {
				all = append(all, s+c)
			}
		}
		from = to
	}
	for digits := range uint8(5) {
		form := regexp.MustCompile(`^-?(0|[1-9][0-9]*)$`)
		if digits > 0 {
			form = regexp.MustCompile(fmt.Sprintf(`^-?(0|[1-9][0-9]*)\.[0-9]{%d}$`, digits))
		}
		nought := regexp.MustCompile(`^-[0.]*$`)
		for _, s := range all {
			n, e := Parse(s, digits)
			if !form.MatchString(s) || nought.MatchString(s) {
				if n != 0 || e != api.ErrNumber {
					t.Fatalf("Parse(%q, %d) = %d, %d", s, digits, n, e)
				}
				continue
			}
			want, _ := new(big.Rat).SetString(s)
			if e != api.OK || value(n, digits).Cmp(want) != 0 {
				t.Fatalf("Parse(%q, %d) = %d, %d", s, digits, n, e)
			}
		}
	}
}

func TestScaleExamples(t *testing.T) { // P2.3
	for _, x := range []struct {
		n        int64
		from, to uint8
		want     int64
		exact    bool
		e        api.Errno
	}{
		{1250, 2, 0, 13, false, api.OK}, {-1250, 2, 0, -13, false, api.OK}, {1249, 2, 0, 12, false, api.OK}, {-1249, 2, 0, -12, false, api.OK},
		{1251, 2, 0, 13, false, api.OK}, {-1251, 2, 0, -13, false, api.OK}, {1350, 2, 0, 14, false, api.OK}, {1200, 2, 0, 12, true, api.OK}, {-1200, 2, 0, -12, true, api.OK},
		{5, 1, 0, 1, false, api.OK}, {-5, 1, 0, -1, false, api.OK}, {4, 1, 0, 0, false, api.OK}, {-4, 1, 0, 0, false, api.OK}, {0, 6, 0, 0, true, api.OK}, {0, 0, 6, 0, true, api.OK},
		{499999, 6, 0, 0, false, api.OK}, {500000, 6, 0, 1, false, api.OK}, {-500000, 6, 0, -1, false, api.OK}, {-499999, 6, 0, 0, false, api.OK},
		{12, 1, 3, 1200, true, api.OK}, {-12, 3, 3, -12, true, api.OK}, {most, 6, 6, most, true, api.OK}, {-most, 0, 0, -most, true, api.OK},
		{most, 6, 0, 1_000_000_000, true, api.OK}, {most - 1, 6, 0, 1_000_000_000, false, api.OK}, {most - 1, 1, 0, most / 10, false, api.OK},
		{1_000_000_000, 0, 6, most, true, api.OK}, {-1_000_000_000, 0, 6, -most, true, api.OK},
		{1_000_000_001, 0, 6, 0, false, api.ErrRange}, {-1_000_000_001, 0, 6, 0, false, api.ErrRange},
		{most, 0, 1, 0, false, api.ErrRange}, {-most, 0, 6, 0, false, api.ErrRange}, {most/10 + 1, 2, 3, 0, false, api.ErrRange},
		{1, 7, 0, 0, false, api.ErrNumber}, {1, 0, 7, 0, false, api.ErrNumber}, {1, 7, 7, 0, false, api.ErrNumber}, {1, 255, 254, 0, false, api.ErrNumber}, {0, 250, 0, 0, false, api.ErrNumber},
		{most, 0, 7, 0, false, api.ErrNumber}, {most + 1, 0, 0, 0, false, api.ErrNumber}, {-most - 1, 0, 6, 0, false, api.ErrNumber}, {most + 1, 6, 0, 0, false, api.ErrNumber},
		{math.MinInt64, 6, 0, 0, false, api.ErrNumber}, {math.MaxInt64, 0, 6, 0, false, api.ErrNumber},
	} {
		got, exact, e := Scale(x.n, x.from, x.to)
		if got != x.want || exact != x.exact || e != x.e {
			t.Errorf("Scale(%d, %d, %d) = %d, %v, %d, not %d, %v, %d", x.n, x.from, x.to, got, exact, e, x.want, x.exact, x.e)
		}
	}
}

func TestScaleOfNumbers(t *testing.T) { // P2.3, held against great integers
	for _, n := range edges() {
		for from := range uint8(7) {
			for to := range uint8(7) {
				want := new(big.Rat).Mul(value(n, from), value(Unit(to), 0))
				rounded, _ := new(big.Int).SetString(want.FloatString(0), 10) // FloatString rounds halves away from 0
				got, exact, e := Scale(n, from, to)
				if rounded.CmpAbs(big.NewInt(most)) > 0 {
					if got != 0 || exact || e != api.ErrRange {
						t.Errorf("Scale(%d, %d, %d) = %d, %v, %d, not ErrRange", n, from, to, got, exact, e)
					}
				} else if got != rounded.Int64() || exact != want.IsInt() || e != api.OK {
					t.Errorf("Scale(%d, %d, %d) = %d, %v, %d, not %v, %v", n, from, to, got, exact, e, rounded, want.IsInt())
				}
			}
		}
	}
}

func TestCompare(t *testing.T) { // P2.4, and P2.7: the order is that of the values
	for _, a := range edges() {
		for _, b := range edges() {
			for _, d := range [][2]uint8{{0, 0}, {6, 6}, {0, 6}, {6, 0}, {1, 2}, {2, 1}, {3, 6}, {5, 4}} {
				want := value(a, d[0]).Cmp(value(b, d[1]))
				if got, e := Compare(a, d[0], b, d[1]); got != want || e != api.OK {
					t.Fatalf("Compare(%d, %d, %d, %d) = %d, %d, not %d", a, d[0], b, d[1], got, e, want)
				}
			}
		}
	}
}

func TestCompareSmall(t *testing.T) { // P2.4
	for a := int64(-120); a <= 120; a++ {
		for b := int64(-120); b <= 120; b++ {
			for da := range uint8(3) {
				for db := range uint8(3) {
					want := value(a, da).Cmp(value(b, db))
					if got, e := Compare(a, da, b, db); got != want || e != api.OK {
						t.Fatalf("Compare(%d, %d, %d, %d) = %d, %d, not %d", a, da, b, db, got, e, want)
					}
				}
			}
		}
	}
}

func TestCompareWrong(t *testing.T) { // P2.4
	refused := func(a int64, da uint8, b int64, db uint8) {
		t.Helper()
		if got, e := Compare(a, da, b, db); got != 0 || e != api.ErrNumber {
			t.Errorf("Compare(%d, %d, %d, %d) = %d, %d", a, da, b, db, got, e)
		}
	}
	for _, n := range outside() {
		refused(n, 0, 1, 0)
		refused(1, 0, n, 0)
		refused(n, 6, n, 6)
	}
	for _, digits := range tooMany() {
		refused(5, digits, 4, 0)
		refused(5, 0, 4, digits)
		refused(5, digits, 4, digits)
	}
}

func TestAdd(t *testing.T) { // P2.4
	for _, a := range edges() {
		for _, b := range edges() {
			got, e := Add(a, b)
			switch sum := a + b; {
			case sum > most || sum < -most:
				if got != 0 || e != api.ErrRange {
					t.Fatalf("Add(%d, %d) = %d, %d, not ErrRange", a, b, got, e)
				}
			case got != sum || e != api.OK:
				t.Fatalf("Add(%d, %d) = %d, %d, not %d", a, b, got, e, sum)
			}
		}
	}
	for _, n := range outside() {
		for _, m := range []int64{0, 1, -1, most, -most, n, -n} {
			for _, x := range [][2]int64{{n, m}, {m, n}} {
				if got, e := Add(x[0], x[1]); got != 0 || e != api.ErrNumber {
					t.Errorf("Add(%d, %d) = %d, %d, not ErrNumber", x[0], x[1], got, e)
				}
			}
		}
	}
}

func TestRoundTrip(t *testing.T) { // P2.5
	for _, n := range edges() {
		for digits := range uint8(7) {
			s, _ := Text(n, digits)
			if back, e := Parse(s, digits); back != n || e != api.OK {
				t.Errorf("%d with %d digits: %q is parsed as %d, %d", n, digits, s, back, e)
			}
			for others := range uint8(7) {
				m, e := Parse(s, others)
				if again, _ := Text(m, others); e == api.OK && again != s {
					t.Errorf("%q with %d digits is parsed as %d, whose text is %q", s, others, m, again)
				}
			}
		}
	}
}

func TestRescaling(t *testing.T) { // P2.6
	for _, n := range edges() {
		for from := range uint8(7) {
			for to := range uint8(7) {
				out, exact, e := Scale(n, from, to)
				if e != api.OK {
					continue
				}
				if back, same, e := Scale(out, to, from); to >= from && (back != n || !same || e != api.OK) {
					t.Errorf("%d from %d to %d and back: %d, %v, %d", n, from, to, back, same, e)
				}
				if c, _ := Compare(out, to, n, from); exact != (c == 0) {
					t.Errorf("%d from %d to %d: %d, exact %v, compares as %d", n, from, to, out, exact, c)
				}
				apart := new(big.Rat).Sub(value(out, to), value(n, from))
				if half := value(5, to+1); apart.Abs(apart).Cmp(half) > 0 {
					t.Errorf("%d from %d to %d: %d, which is %v apart", n, from, to, out, apart)
				}
			}
		}
	}
}

func TestSumsCompare(t *testing.T) { // P2.7
	all := edges()
	for i := 0; i < len(all); i += 3 {
		for j := 0; j < len(all); j += 2 {
			for k := 0; k < len(all); k += 5 {
				a, e := Add(all[i], all[k])
				b, f := Add(all[j], all[k])
				if e != api.OK || f != api.OK {
					continue
				}
				for digits := range uint8(7) {
					want, _ := Compare(all[i], digits, all[j], digits)
					if got, _ := Compare(a, digits, b, digits); got != want {
						t.Fatalf("%d and %d compare as %d, but with %d added as %d", all[i], all[j], want, all[k], got)
					}
				}
			}
		}
	}
}

func TestOrder(t *testing.T) { // P2.7: either way round, and by way of a third
	type number struct {
		n      int64
		digits uint8
	}
	var all []number
	for _, n := range []int64{0, 1, -1, 5, -5, 10, -10, 12, -12, 120, -120, 1_000_000, -1_000_000, most, -most, most - 1, 1 - most} {
		for _, digits := range []uint8{0, 1, 5, 6} {
			all = append(all, number{n, digits})
		}
	}
	for _, a := range all {
		for _, b := range all {
			ab, _ := Compare(a.n, a.digits, b.n, b.digits)
			if ba, _ := Compare(b.n, b.digits, a.n, a.digits); ab != -ba {
				t.Fatalf("%v and %v compare as %d, the other way as %d", a, b, ab, ba)
			}
			for _, c := range all {
				bc, _ := Compare(b.n, b.digits, c.n, c.digits)
				if ac, _ := Compare(a.n, a.digits, c.n, c.digits); ab <= 0 && bc <= 0 && ac > 0 {
					t.Fatalf("%v, %v, %v are no order", a, b, c)
				}
			}
		}
	}
}
