package arena

import (
	"math"
	"slices"
	"testing"

	"bedside/api"
)

// beyond holds numbers that are no slots of any arena.
var beyond = []int{-1, -2, -63, -64, -65, math.MinInt, math.MinInt + 1, math.MinInt32, api.MaxSlots, api.MaxSlots + 1, 127, 128, math.MaxInt32, math.MaxInt - 1, math.MaxInt}

// fresh gives a new arena of n slots.
func fresh(t *testing.T, n int) *Arena {
	t.Helper()
	a, e := New(n)
	if a == nil || e != api.OK {
		t.Fatalf("New of %d: %v %v", n, a, e)
	}
	return a
}

// filled gives an arena of n slots that are all taken, each once.
func filled(t *testing.T, n int) *Arena {
	t.Helper()
	a := fresh(t, n)
	for want := range n {
		take(t, a, want)
	}
	return a
}

func take(t *testing.T, a *Arena, want int) {
	t.Helper()
	if k, e := a.Take(); k != want || e != api.OK {
		t.Fatalf("Take: %d %v, not %d", k, e, want)
	}
}

func takeNone(t *testing.T, a *Arena, want api.Errno) {
	t.Helper()
	if k, e := a.Take(); k != 0 || e != want {
		t.Fatalf("Take: %d %v, not %v", k, e, want)
	}
}

func give(t *testing.T, a *Arena, k int, want api.Errno) {
	t.Helper()
	if e := a.Give(k); e != want {
		t.Fatalf("Give of %d: %v, not %v", k, e, want)
	}
}

// plain is an arena as the chapter says it, slot by slot, with nothing clever in it.
type plain struct {
	taken       []bool
	ages        []int
	takes, back int
}

func newPlain(n int) *plain {
	return &plain{taken: make([]bool, n), ages: make([]int, n)}
}

func (p *plain) take() (int, api.Errno) {
	k := slices.Index(p.taken, false)
	if k < 0 {
		return 0, api.ErrFull
	}
	p.taken[k] = true
	p.ages[k]++
	p.takes++
	return k, api.OK
}

func (p *plain) give(k int) api.Errno {
	if k < 0 || k >= len(p.taken) || !p.taken[k] {
		return api.ErrSlot
	}
	p.taken[k] = false
	p.back++
	return api.OK
}

func (p *plain) all() []int {
	var l []int
	for k, taken := range p.taken {
		if taken {
			l = append(l, k)
		}
	}
	return l
}

// same holds all that the arena shows against p, slots that do not exist included.
func same(t *testing.T, a *Arena, p *plain) {
	t.Helper()
	want := p.all()
	if a.Size() != len(p.taken) || a.Many() != len(want) || !slices.Equal(a.All(), want) {
		t.Fatalf("size %d, %d taken: %v; not %d, %v", a.Size(), a.Many(), a.All(), len(p.taken), want)
	}
	for k := range len(p.taken) {
		if a.Taken(k) != p.taken[k] || a.Age(k) != p.ages[k] {
			t.Fatalf("slot %d of %d: %v, age %d; not %v, %d", k, len(p.taken), a.Taken(k), a.Age(k), p.taken[k], p.ages[k])
		}
	}
	for _, k := range append([]int{len(p.taken), len(p.taken) + 1}, beyond...) {
		if a.Taken(k) || a.Age(k) != 0 {
			t.Fatalf("slot %d of %d: %v, age %d", k, len(p.taken), a.Taken(k), a.Age(k))
		}
	}
}

// bothTake takes from both, and holds the answers against each other and against P6.5 and P6.6.
func bothTake(t *testing.T, a *Arena, p *plain) {
	t.Helper()
	before := a.All()
	k, e := a.Take()
	if want, wantErr := p.take(); k != want || e != wantErr {
		t.Fatalf("Take: %d %v, not %d %v", k, e, want, wantErr)
	}
	if e != api.OK {
		return
	}
	if slices.Contains(before, k) {
		t.Fatalf("%d was taken already: %v", k, before)
	}
	for free := range a.Size() {
		if !a.Taken(free) && free <= k {
			t.Fatalf("%d is free, and less than %d", free, k)
		}
	}
}

func bothGive(t *testing.T, a *Arena, p *plain, k int) {
	t.Helper()
	if e, want := a.Give(k), p.give(k); e != want {
		t.Fatalf("Give of %d: %v, not %v", k, e, want)
	}
}

// balance holds the ages against how often there was a slot taken and given.
func balance(t *testing.T, a *Arena, p *plain) {
	t.Helper()
	sum := 0
	for k := range a.Size() {
		sum += a.Age(k)
	}
	if sum != p.takes || sum-p.back != a.Many() || a.Many() > a.Size() {
		t.Fatalf("ages %d of %d takes, %d given, %d taken of %d", sum, p.takes, p.back, a.Many(), a.Size())
	}
}

// P6.1: each number of slots that may be, and all of them are free.
func TestNew(t *testing.T) {
	for n := 1; n <= api.MaxSlots; n++ {
		same(t, fresh(t, n), newPlain(n))
	}
}

// P6.1
func TestNewOfWrongNumbers(t *testing.T) {
	for _, n := range []int{0, -1, -2, -64, api.MaxSlots + 1, 2 * api.MaxSlots, 1 << 32, 1<<32 + 1, math.MinInt32, math.MaxInt32, math.MinInt, math.MinInt + 1, math.MaxInt - 1, math.MaxInt} {
		if a, e := New(n); a != nil || e != api.ErrArg {
			t.Errorf("%d: %v %v", n, a, e)
		}
	}
}

// P6.1: one arena is nothing to another one.
func TestArenasStandAlone(t *testing.T) {
	a, b := fresh(t, 3), fresh(t, 3)
	take(t, a, 0)
	take(t, a, 1)
	same(t, b, newPlain(3))
	take(t, b, 0)
	give(t, b, 0, api.OK)
	if !a.Taken(0) || a.Age(0) != 1 {
		t.Errorf("%v, age %d", a.Taken(0), a.Age(0))
	}
}

// P6.2, P6.5, P6.6: slots go from 0 on, all of them, and there is no more.
func TestTakeTillFull(t *testing.T) {
	for n := 1; n <= api.MaxSlots; n++ {
		a, p := fresh(t, n), newPlain(n)
		for range n + 3 {
			bothTake(t, a, p)
			same(t, a, p)
		}
		takeNone(t, a, api.ErrFull)
		balance(t, a, p)
	}
}

// P6.2, P6.3, P6.5, P6.6: the example of the chapter.
func TestExample(t *testing.T) {
	a := filled(t, 3)
	takeNone(t, a, api.ErrFull)
	give(t, a, 1, api.OK)
	take(t, a, 1)
	if a.Age(0) != 1 || a.Age(1) != 2 || a.Age(2) != 1 {
		t.Errorf("ages %d, %d, %d", a.Age(0), a.Age(1), a.Age(2))
	}
}

// P6.2, P6.5, P6.6: whichever slot of a full arena is given back, it is the one that is taken next.
func TestGiveOfEachSlotAndTakeAfterIt(t *testing.T) {
	for _, n := range []int{1, 2, 3, 5, 63, api.MaxSlots} {
		for k := range n {
			a := filled(t, n)
			give(t, a, k, api.OK)
			if a.Taken(k) || a.Age(k) != 1 || a.Many() != n-1 || slices.Contains(a.All(), k) {
				t.Errorf("%d of %d was given back: %v, age %d, %v", k, n, a.Taken(k), a.Age(k), a.All())
			}
			give(t, a, k, api.ErrSlot)
			take(t, a, k)
			takeNone(t, a, api.ErrFull)
			if a.Age(k) != 2 {
				t.Errorf("%d of %d: age %d", k, n, a.Age(k))
			}
		}
	}
}

// P6.6: of several free slots the least is taken, in whatever order they were given back.
func TestTakeOfTheLeast(t *testing.T) {
	for _, given := range [][]int{{0, 31, 63}, {63, 31, 0}, {31, 63, 0}, {62, 1, 32}, {5, 4, 3, 2, 1, 0}, {33, 32, 31}} {
		a := filled(t, api.MaxSlots)
		for _, k := range given {
			give(t, a, k, api.OK)
		}
		for _, k := range slices.Sorted(slices.Values(given)) {
			take(t, a, k)
		}
		takeNone(t, a, api.ErrFull)
	}
}

// P6.2: Give of a slot that does not exist or is free changes nothing.
func TestGiveOfWrongSlots(t *testing.T) {
	for _, n := range []int{1, 2, 3, 32, 63, api.MaxSlots} {
		a, p := fresh(t, n), newPlain(n)
		for k := range n {
			give(t, a, k, api.ErrSlot)
		}
		for range n {
			for _, k := range append([]int{n, n + 1}, beyond...) {
				give(t, a, k, api.ErrSlot)
			}
			give(t, a, n-1, api.ErrSlot)
			same(t, a, p)
			bothTake(t, a, p)
		}
		for _, k := range append([]int{n, n + 1}, beyond...) {
			give(t, a, k, api.ErrSlot)
		}
		same(t, a, p)
	}
}

// P6.2, P6.3: what fails because the arena is full leaves all ages as they are.
func TestTakeOfAFullArenaChangesNothing(t *testing.T) {
	for _, n := range []int{1, 3, api.MaxSlots} {
		a, p := filled(t, n), newPlain(n)
		for range n {
			p.take()
		}
		for range 5 {
			takeNone(t, a, api.ErrFull)
			same(t, a, p)
		}
	}
}

// P6.3: an age counts how often, and stays when the slot is given back.
func TestAgeOfASlotTakenManyTimes(t *testing.T) {
	a := fresh(t, 2)
	for i := range 100_000 {
		take(t, a, 0)
		if a.Age(0) != i+1 {
			t.Fatalf("age %d, not %d", a.Age(0), i+1)
		}
		give(t, a, 0, api.OK)
	}
	if a.Age(0) != 100_000 || a.Age(1) != 0 || a.Many() != 0 {
		t.Errorf("ages %d, %d, %d taken", a.Age(0), a.Age(1), a.Many())
	}
}

// P6.3: the list belongs to who asked for it.
func TestAllIsANewList(t *testing.T) {
	a := filled(t, 4)
	give(t, a, 2, api.OK)
	first, second := a.All(), a.All()
	for i := range first {
		first[i] = 2
	}
	_ = append(first[:1], 9, 9, 9)
	want := []int{0, 1, 3}
	if !slices.Equal(second, want) || !slices.Equal(a.All(), want) || a.Taken(2) || a.Many() != 3 {
		t.Errorf("%v %v", second, a.All())
	}
	give(t, a, 0, api.OK)
	if !slices.Equal(second, want) {
		t.Errorf("%v", second)
	}
}

// P6.3: calls that only ask change nothing.
func TestAskingChangesNothing(t *testing.T) {
	a, p := fresh(t, 5), newPlain(5)
	for range 3 {
		bothTake(t, a, p)
	}
	bothGive(t, a, p, 1)
	for range 4 {
		same(t, a, p)
		a.Copy()
	}
	bothTake(t, a, p)
	same(t, a, p)
}

// P6.4: a copy that is made while slots are taken goes on alone, and so does what it was made of.
func TestCopyGoesOnAlone(t *testing.T) {
	for _, n := range []int{1, 2, 3, 33, api.MaxSlots} {
		for taken := range n + 1 {
			a, p, q := fresh(t, n), newPlain(n), newPlain(n)
			for range taken {
				bothTake(t, a, p)
				q.take()
			}
			b := a.Copy()
			if b == nil || b == a {
				t.Fatalf("%p of %p", b, a)
			}
			same(t, b, q)
			bothGive(t, a, p, 0)
			bothTake(t, a, p)
			bothTake(t, a, p)
			same(t, a, p)
			same(t, b, q)
			bothGive(t, b, q, taken-1)
			bothGive(t, b, q, 0)
			same(t, a, p)
			same(t, b, q)
			bothTake(t, b, q)
			same(t, a, p)
			same(t, b, q)
		}
	}
}

// P6.4: a copy of a copy, and one of an arena whose slots are all free again.
func TestCopyOfACopy(t *testing.T) {
	a, p := fresh(t, 3), newPlain(3)
	bothTake(t, a, p)
	bothTake(t, a, p)
	bothGive(t, a, p, 0)
	bothGive(t, a, p, 1)
	b := a.Copy()
	c := b.Copy()
	take(t, b, 0)
	same(t, a, p)
	same(t, c, p)
	bothTake(t, c, p)
	same(t, c, p)
	if b.Age(0) != 2 || a.Age(0) != 1 || a.Taken(0) || a.Many() != 0 {
		t.Errorf("ages %d, %d", b.Age(0), a.Age(0))
	}
}

// unmade gives Arenas that New and Copy did not return.
func unmade(t *testing.T) []*Arena {
	a := filled(t, 3)
	give(t, a, 1, api.OK)
	fromNew, fromCopy := *a, *a.Copy()
	again := fromNew
	return []*Arena{nil, {}, new(Arena), &fromNew, &fromCopy, &again}
}

// answersNothing holds what an Arena answers that New and Copy did not return.
func answersNothing(t *testing.T, i int, a *Arena) {
	t.Helper()
	takeNone(t, a, api.ErrNil)
	if a.Size() != 0 || a.Many() != 0 || len(a.All()) != 0 {
		t.Errorf("%d: size %d, %d taken: %v", i, a.Size(), a.Many(), a.All())
	}
	for _, k := range append([]int{0, 1, 2, 3}, beyond...) {
		give(t, a, k, api.ErrNil)
		if a.Taken(k) || a.Age(k) != 0 {
			t.Errorf("%d: slot %d: %v, age %d", i, k, a.Taken(k), a.Age(k))
		}
	}
}

// P6.1 to P6.4: nothing is to be had of such an Arena, nor of its copy, whatever was called before.
func TestArenasThatNewAndCopyDidNotReturn(t *testing.T) {
	for i, a := range unmade(t) {
		answersNothing(t, i, a)
		b := a.Copy()
		if (a == nil) != (b == nil) || a != nil && a == b {
			t.Errorf("%d: %p of %p", i, b, a)
		}
		answersNothing(t, i, b)
		answersNothing(t, i, a)
	}
}

// P6.4: an assignment is no way to the slots of an arena.
func TestAssignedArenaLeavesTheOtherAsItIs(t *testing.T) {
	a, p := fresh(t, 3), newPlain(3)
	bothTake(t, a, p)
	b := *a
	b.Take()
	b.Give(0)
	b.Copy().Take()
	same(t, a, p)
	bothTake(t, a, p)
	same(t, a, p)
}

// P6.1 to P6.7: all there is to do with few slots, step by step.
func TestAllShortSequences(t *testing.T) {
	for n := 1; n <= 4; n++ {
		const steps = 6
		choices := n + 3 // Take, or Give of -1 to n
		sequences := 1
		for range steps {
			sequences *= choices
		}
		for s := range sequences {
			a, p := fresh(t, n), newPlain(n)
			for range steps {
				if move := s % choices; move == 0 {
					bothTake(t, a, p)
				} else {
					bothGive(t, a, p, move-2)
				}
				s /= choices
			}
			same(t, a, p)
			balance(t, a, p)
		}
	}
}

// P6.1 to P6.7: long ways through arenas of all sizes, with copies of which one goes on; the order of steps is the same in each run.
func TestLongSequences(t *testing.T) {
	state := uint32(1)
	next := func(n int) int {
		state = state*1664525 + 1013904223
		return int(state>>8) % n
	}
	for n := 1; n <= api.MaxSlots; n++ {
		a, p := fresh(t, n), newPlain(n)
		for i := range 400 {
			// Takes prevail in one half of the time, and Gives in the other one, so that arenas get full and empty.
			if next(4) < 1+i/(2*n)%2*2 {
				bothGive(t, a, p, next(n+2)-1)
			} else {
				bothTake(t, a, p)
			}
			if next(20) == 0 {
				left := a
				a = a.Copy()
				left.Take()
				left.Give(next(n))
			}
			same(t, a, p)
			balance(t, a, p)
		}
	}
}
