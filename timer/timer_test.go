package timer_test

import (
	"math"
	"math/rand/v2"
	"slices"
	"testing"

	"longeron/timer"
)

// P18.1: ordinary.

// The chapter's example.
func TestExample(t *testing.T) {
	x := timer.New()
	x.Set(1, 5)
	x.Set(2, 3)
	if l := x.Due(4); !slices.Equal(l, []int{2}) {
		t.Errorf("Due 4: %v", l)
	}
	if n, is := x.At(1); n != 5 || !is {
		t.Errorf("At 1: %d, %v", n, is)
	}
	if n, is := x.At(2); n != 0 || is {
		t.Errorf("At 2: %d, %v", n, is)
	}
	if n, is := x.Next(); n != 5 || !is {
		t.Errorf("Next: %d, %v", n, is)
	}
	if n := x.Len(); n != 1 {
		t.Errorf("Len: %d", n)
	}
}

// What each call answers, written out by hand.
func TestByHand(t *testing.T) {
	x := timer.New()
	tells := func(what string, wantLen, wantNext int, wantIs bool) {
		t.Helper()
		if n := x.Len(); n != wantLen {
			t.Errorf("%s: Len is %d, want %d", what, n, wantLen)
		}
		if n, is := x.Next(); n != wantNext || is != wantIs {
			t.Errorf("%s: Next is %d, %v, want %d, %v", what, n, is, wantNext, wantIs)
		}
	}
	tells("none", 0, 0, false)
	x.Set(7, 20)
	tells("one", 1, 20, true)
	x.Set(3, 30)
	tells("a later one", 2, 20, true)
	x.Set(5, 10)
	tells("an earlier one", 3, 10, true)
	x.Set(5, 40)
	tells("the earliest one anew, to the latest tick", 3, 20, true)
	x.Set(3, 5)
	tells("the earliest tick of all", 3, 5, true)
	if !x.Stop(3) {
		t.Error("3 was set")
	}
	tells("the first one stopped", 2, 20, true)
	if x.Stop(3) || x.Stop(4) || x.Stop(-5) || x.Stop(20) {
		t.Error("none of them was set")
	}
	tells("nothing stopped", 2, 20, true)
	if l := x.Due(19); len(l) != 0 {
		t.Errorf("Due 19: %v", l)
	}
	if l := x.Due(20); !slices.Equal(l, []int{7}) {
		t.Errorf("Due 20: %v", l)
	}
	tells("one was due", 1, 40, true)
	if l := x.Due(1000); !slices.Equal(l, []int{5}) {
		t.Errorf("Due 1000: %v", l)
	}
	tells("all were due", 0, 0, false)
	if l := x.Due(1000); len(l) != 0 {
		t.Errorf("Due 1000 again: %v", l)
	}
}

// Five timers set in each order, due at each tick from before the first on to behind the last, at once and tick by tick.
func TestEachOrder(t *testing.T) {
	ticks := []int{10, 12, 12, 15, 20}
	names := []int{4, -3, 9, 0, 2}
	orders(5, func(order []int) {
		for tick := 9; tick <= 21; tick++ {
			p := begin(t)
			for _, n := range order {
				p.set(names[n], ticks[n])
			}
			p.due(tick)
			p.due(tick)
			p.drain()
		}
	})
}

// Seven timers, each with a tick of its own, set in each order: they are due in the order of their ticks, whatever their names.
func TestEachOrderAtOnce(t *testing.T) {
	names := []int{3, 6, 0, 5, 1, 4, 2}
	orders(7, func(order []int) {
		x := timer.New()
		for _, n := range order {
			x.Set(names[n], n)
		}
		if l := x.Due(6); !slices.Equal(l, names) || x.Len() != 0 {
			t.Fatalf("set %v: %v", order, l)
		}
	})
}

// P18.1: the edges.

// No timer at all: nothing is due, is to be stopped, or is set.
func TestNone(t *testing.T) {
	p := begin(t, extremes...)
	for _, n := range extremes {
		p.due(n)
		p.stop(n)
	}
}

// One, of each name and at each tick: due there and behind, not before; stopped; set anew to each other tick.
func TestOne(t *testing.T) {
	for _, name := range extremes {
		for _, tick := range extremes {
			for _, at := range extremes {
				p := begin(t, 0, 1, -1, name, -name)
				p.set(name, tick)
				p.due(at)
				p.set(name, at)
				p.stop(name)
				p.stop(name)
				p.set(name, at)
				p.set(name, tick)
				p.drain()
				p.stop(name)
			}
		}
	}
}

// The least and the greatest tick: each is a tick as any other.
func TestExtremesByHand(t *testing.T) {
	x := timer.New()
	x.Set(1, math.MaxInt)
	x.Set(2, math.MinInt)
	x.Set(3, 0)
	if n, is := x.Next(); n != math.MinInt || !is {
		t.Errorf("Next: %d, %v", n, is)
	}
	if l := x.Due(math.MinInt); !slices.Equal(l, []int{2}) {
		t.Errorf("Due at the least tick: %v", l)
	}
	if l := x.Due(math.MaxInt - 1); !slices.Equal(l, []int{3}) {
		t.Errorf("Due ahead of the greatest tick: %v", l)
	}
	if l := x.Due(math.MaxInt); !slices.Equal(l, []int{1}) {
		t.Errorf("Due at the greatest tick: %v", l)
	}
}

// All extreme names at once, each at an extreme tick, in mixed order; due at each of the ticks.
func TestExtremesTogether(t *testing.T) {
	for seed := range 30 {
		r := rand.New(rand.NewPCG(1, uint64(seed)))
		for _, at := range extremes {
			p := begin(t, 3, -3)
			for _, n := range r.Perm(len(extremes)) {
				p.set(extremes[n], extremes[r.IntN(len(extremes))])
			}
			p.due(at)
			p.story = nil
			for _, n := range r.Perm(len(extremes)) {
				p.stop(extremes[n])
			}
		}
	}
}

// Names that differ only in sign are two, whichever is set, stopped or due first.
func TestSigns(t *testing.T) {
	for _, name := range []int{1, 2, 255, 65536, math.MaxInt32, 1 << 32, math.MaxInt} {
		for _, ticks := range [][2]int{{5, 5}, {5, 6}, {6, 5}, {5, -5}, {-5, 5}, {0, 0}} {
			for _, first := range []int{name, -name} {
				p := begun(t, setting{first, ticks[0]}, setting{-first, ticks[1]})
				p.stop(name)
				p.set(name, 7)
				p.stop(-name)
				p.drain()
				p = begun(t, setting{first, ticks[0]}, setting{-first, ticks[1]})
				p.due(5)
				p.set(first, 4)
				p.drain()
			}
		}
	}
}

// Ticks that differ only in sign are two, and an earlier one is a smaller one.
func TestNegativeTicks(t *testing.T) {
	orders(5, func(order []int) {
		p := begin(t)
		for _, n := range order {
			p.set(n, 2*(n-2)) // -4, -2, 0, 2, 4
		}
		for tick := -5; tick <= 5; tick++ {
			p.due(tick)
		}
	})
}

// sixTimers are set in that order, to ticks with room ahead of each, behind each, and between them.
func sixTimers(t *testing.T, order []int) *pair {
	t.Helper()
	p := begin(t)
	for _, n := range order {
		p.set(n, 10*n+10)
	}
	return p
}

// Each of six that were set in each order is set anew: to an earlier tick, the same, a later one, the earliest and the latest of all, and that of each other one. Only the last tick counts.
func TestSetAnew(t *testing.T) {
	orders(6, func(order []int) {
		for name := range 6 {
			tick := 5 + 5*(order[0]+order[5])
			p := sixTimers(t, order)
			p.set(name, tick)
			p.drain()
		}
	})
	order := []int{3, 1, 5, 0, 4, 2}
	for name := range 6 {
		for tick := 0; tick <= 70; tick++ {
			p := sixTimers(t, order)
			p.set(name, tick)
			for at := 0; at <= 70; at += 5 {
				p.due(at)
			}
		}
		for first := 0; first <= 70; first += 5 {
			for second := 0; second <= 70; second += 5 {
				p := sixTimers(t, order)
				p.set(name, first)
				p.set(name, second)
				p.due(max(first, second) - 1)
				p.drain()
			}
		}
	}
}

// What was set often is due once, and not at the ticks of before.
func TestOnlyTheLastTickCounts(t *testing.T) {
	x := timer.New()
	for _, tick := range []int{5, 9, 2, 7, 7, math.MinInt, math.MaxInt, 6} {
		x.Set(1, tick)
		if n, is := x.At(1); n != tick || !is || x.Len() != 1 {
			t.Errorf("At: %d, %v; Len: %d", n, is, x.Len())
		}
	}
	if l := x.Due(5); len(l) != 0 {
		t.Errorf("Due 5: %v", l)
	}
	if l := x.Due(6); !slices.Equal(l, []int{1}) {
		t.Errorf("Due 6: %v", l)
	}
	if l := x.Due(math.MaxInt); len(l) != 0 {
		t.Errorf("Due at last: %v", l)
	}
}

// Each of six that were set in each order is stopped, and so each two of them, one behind the other.
func TestStopEach(t *testing.T) {
	orders(6, func(order []int) {
		p := sixTimers(t, order)
		for _, name := range []int{order[2], order[0], order[4]} {
			p.stop(name)
			p.stop(name)
		}
		p.drain()
	})
	for _, order := range [][]int{{0, 1, 2, 3, 4, 5}, {5, 4, 3, 2, 1, 0}, {3, 1, 5, 0, 4, 2}} {
		for one := range 6 {
			for other := range 6 {
				for tick := 0; tick <= 70; tick += 5 {
					p := sixTimers(t, order)
					p.stop(one)
					p.stop(other)
					p.stop(6)
					p.due(tick)
					p.stop(one)
					p.stop(other)
					p.drain()
				}
			}
		}
	}
}

// One that was stopped, or was due, is set anew, to each tick; and is as if it were set for the first time.
func TestSetBehindStopAndDue(t *testing.T) {
	for name := range 6 {
		for tick := 0; tick <= 70; tick += 5 {
			p := sixTimers(t, []int{3, 1, 5, 0, 4, 2})
			p.stop(name)
			p.set(name, tick)
			p.due(tick - 1)
			p.set(name, tick)
			p.drain()

			p = sixTimers(t, []int{4, 0, 2, 5, 1, 3})
			p.due(10*name + 10)
			p.set(name, tick)
			p.stop(name)
			p.set(name, tick+1)
			p.due(tick)
			p.drain()
		}
	}
}

// Due at a tick, at the same one twice, and at an earlier one behind a later one; what is set in between is due in its turn, even at a tick that is over.
func TestDueTwice(t *testing.T) {
	for first := 0; first <= 70; first += 5 {
		for second := 0; second <= 70; second += 5 {
			p := sixTimers(t, []int{2, 5, 0, 3, 1, 4})
			p.due(first)
			p.due(first)
			p.due(second)
			p.set(9, first)
			p.set(8, second)
			p.due(min(first, second))
			p.due(min(first, second))
			p.drain()
		}
	}
}

// Several set to one tick are told by name, whichever way they were set; others before and behind that tick go before and behind.
func TestOneTick(t *testing.T) {
	names := []int{math.MinInt, -7, -1, 0, 1, 7, math.MaxInt}
	orders(7, func(order []int) {
		x := timer.New()
		for _, n := range order {
			x.Set(names[n], 4)
		}
		if l := x.Due(4); !slices.Equal(l, names) {
			t.Fatalf("set %v: %v", order, l)
		}
	})
	orders(6, func(order []int) {
		p := begin(t)
		for _, n := range order {
			p.set(5-n, 3+n/2) // 5 and 4, then 3 and 2, then 1 and 0
		}
		if l := p.due(9); !slices.Equal(l, []int{4, 5, 2, 3, 0, 1}) {
			t.Fatalf("set %v: %v", order, l)
		}
	})
}

// Each row of six ticks, of which many are the same: Next behind a Stop of each one, and behind a Set of each one to another one's tick.
func TestNext(t *testing.T) {
	rows(5, 3, func(ticks []int) {
		for name := range 5 {
			for tick := range 4 {
				p := begin(t)
				for n, at := range ticks {
					p.set(n, at)
				}
				p.stop(name)
				p.set((name+1)%5, tick)
				p.set(name, tick)
				p.drain()
			}
		}
	})
}

// What is due isn't set any more, and what isn't due stays; written out by hand.
func TestDueByHand(t *testing.T) {
	x := timer.New()
	for _, s := range []setting{{5, 3}, {-5, 3}, {0, 0}, {8, 4}, {2, 3}, {9, -1}} {
		x.Set(s.name, s.tick)
	}
	if n, is := x.At(0); n != 0 || !is {
		t.Errorf("At of one that is set to 0: %d, %v", n, is)
	}
	if l := x.Due(3); !slices.Equal(l, []int{9, 0, -5, 2, 5}) {
		t.Errorf("Due 3: %v", l)
	}
	for _, name := range []int{9, 0, -5, 2, 5, 7} {
		if n, is := x.At(name); n != 0 || is || x.Stop(name) {
			t.Errorf("%d is set: %d, %v", name, n, is)
		}
	}
	if n, is := x.At(8); n != 4 || !is || x.Len() != 1 {
		t.Errorf("At 8: %d, %v; Len: %d", n, is, x.Len())
	}
	if n, is := x.Next(); n != 4 || !is {
		t.Errorf("Next: %d, %v", n, is)
	}
	if !x.Stop(8) || x.Stop(8) || x.Len() != 0 {
		t.Error("8 was set, and isn't any more")
	}
}

// Many, set in rising, falling and mixed order, and to ticks that many share; some are stopped, and some set anew.
func TestMany(t *testing.T) {
	const many = 20000
	r := rand.New(rand.NewPCG(2, 2))
	mixed := r.Perm(many)
	for _, tickOf := range []func(n int) int{
		func(n int) int { return n },
		func(n int) int { return -n },
		func(n int) int { return mixed[n] },
		func(n int) int { return mixed[n] % 7 },
		func(n int) int { return 3 },
	} {
		for _, name := range []func(n int) int{
			func(n int) int { return n },
			func(n int) int { return many - n },
			func(n int) int { return mixed[n] - many/2 },
		} {
			x := timer.New()
			var want settings
			for n := range many {
				x.Set(name(n), math.MaxInt-n)
			}
			for n := range many {
				x.Set(name(n), tickOf(n))
				if n%3 > 0 {
					want = append(want, setting{name(n), tickOf(n)})
				}
			}
			for n := 0; n < many; n += 3 {
				if !x.Stop(name(n)) {
					t.Fatalf("%d was set", name(n))
				}
			}
			slices.SortFunc(want, func(a, b setting) int {
				if a.tick < b.tick || a.tick == b.tick && a.name < b.name {
					return -1
				}
				return 1
			})
			inTurn(t, x, want)
		}
	}
}

// inTurn says whether these are due, in this order, at thirty ticks and at the last one.
func inTurn(t *testing.T, x *timer.Timers, want settings) {
	t.Helper()
	for n := 1; n <= 30; n++ {
		to := want[len(want)*n/30-1].tick
		left := x.Len()
		if left > 0 {
			if next, is := x.Next(); next != want[len(want)-left].tick || !is {
				t.Fatalf("Next: %d, %v", next, is)
			}
		}
		for _, name := range x.Due(to) {
			if s := want[len(want)-left]; s.name != name || s.tick > to {
				t.Fatalf("Due %d: %d, want %v", to, name, s)
			}
			left--
		}
		if x.Len() != left || left > 0 && want[len(want)-left].tick <= to {
			t.Fatalf("Due %d: %d are left, Len is %d", to, left, x.Len())
		}
	}
	if n := x.Len(); n != 0 {
		t.Fatalf("%d are left", n)
	}
}

// P18.1: Of a nil Timers.
func TestNil(t *testing.T) {
	var x *timer.Timers
	for _, n := range append([]int{3, 5}, extremes...) {
		for _, tick := range extremes {
			x.Set(n, tick)
		}
		if x.Stop(n) {
			t.Errorf("Stop %d: true", n)
		}
		if l := x.Due(n); len(l) != 0 {
			t.Errorf("Due %d: %v", n, l)
		}
		if next, is := x.Next(); next != 0 || is {
			t.Errorf("Next: %d, %v", next, is)
		}
		if at, is := x.At(n); at != 0 || is {
			t.Errorf("At %d: %d, %v", n, at, is)
		}
		if n := x.Len(); n != 0 {
			t.Errorf("Len: %d", n)
		}
	}
	if y := timer.New(); y.Len() != 0 {
		t.Error("what was set of none is set of another one")
	}
}
