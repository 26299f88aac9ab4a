package timer_test

import (
	"math/rand/v2"
	"slices"
	"testing"

	"longeron/timer"
)

// wipe writes over a list, spare room included.
func wipe(l []int) {
	for n := range l[:cap(l)] {
		l[:cap(l)][n] = -77
	}
}

// R1: each call at each name and tick, with few and many set; each ends, none panics, and each answers what a plain list does.
func TestAllNumbers(t *testing.T) {
	for many := range 8 {
		for _, one := range extremes {
			for _, other := range extremes {
				p := begin(t, one, other)
				for n := range many {
					p.set(10+n, 10*n-30)
				}
				p.set(one, other)
				p.stop(other)
				p.set(other, one)
				p.due(one)
				p.stop(one)
				p.due(other)
			}
		}
	}
}

// R2 and R3: Stop of what isn't set, Due where none is, and what asks, change nothing that a later call could tell.
func TestNothingChanges(t *testing.T) {
	for many := range 9 {
		asked, left := timer.New(), timer.New()
		for n := range many {
			asked.Set(n*5%9, n%4)
			left.Set(n*5%9, n%4)
		}
		for _, n := range extremes {
			if n < 0 || n > 8 {
				if asked.Stop(n) {
					t.Errorf("Stop %d: true", n)
				}
			}
			if n < 0 {
				if l := asked.Due(n); len(l) != 0 {
					t.Errorf("Due %d: %v", n, l)
				}
			}
			asked.At(n)
			asked.Next()
			asked.Len()
		}
		for tick := range 5 {
			if a, b := asked.Due(tick), left.Due(tick); !slices.Equal(a, b) {
				t.Errorf("%d timers, Due %d: %v, and %v", many, tick, a, b)
			}
		}
	}
}

// R4: what Due told stays as it was, whatever comes behind it.
func TestDueStays(t *testing.T) {
	for n, c := range crowds() {
		p := begin(t)
		r := rand.New(rand.NewPCG(4, uint64(n)))
		var told, was [][]int
		for round := range 400 {
			p.story = nil
			p.step(r, func() int { return c.name(r) }, func() int { return c.tick(r) })
			if round%5 == 4 {
				l := p.due(c.tick(r))
				told, was = append(told, l), append(was, slices.Clone(l))
			}
		}
		p.drain()
		for n, l := range told {
			if !slices.Equal(l, was[n]) {
				t.Errorf("%v, was %v", l, was[n])
			}
		}
	}
}

// R4: what Due told may be written over, spare room included, and the timers, and what they told beside, stay as they were.
func TestDueIsNew(t *testing.T) {
	for n, c := range crowds() {
		p := begin(t)
		r := rand.New(rand.NewPCG(5, uint64(n)))
		var told, was [][]int
		for range 400 {
			p.story = nil
			p.step(r, func() int { return c.name(r) }, func() int { return c.tick(r) })
			l := p.due(c.tick(r))
			was = append(was, slices.Clone(l))
			told = append(told, l)
			if len(told) > 1 {
				wipe(told[0])
				told, was = told[1:], was[1:]
			}
			if !slices.Equal(told[0], was[0]) {
				t.Errorf("%v, was %v", told[0], was[0])
			}
			p.judge()
		}
		wipe(told[0])
		p.judge()
		p.drain()
	}
}

// R5: two Timers have nothing to do with each other, though they have the same names.
func TestTwoTimers(t *testing.T) {
	for n, c := range crowds() {
		p, q := begin(t), begin(t)
		r := rand.New(rand.NewPCG(6, uint64(n)))
		for round := range 600 {
			p.story, q.story = nil, nil
			one, other := p, q
			if r.IntN(2) == 0 {
				one, other = q, p
			}
			one.step(r, func() int { return c.name(r) }, func() int { return c.tick(r) })
			other.judge()
			if round == 300 {
				q = begin(t)
				p.judge()
			}
		}
		p.drain()
		q.judge()
		q.drain()
	}
}

// R5: the same calls on new Timers answer the same again, whatever was done meanwhile.
func TestSameAgain(t *testing.T) {
	for n, c := range crowds() {
		var first []int
		for round := range 4 {
			answers := told(c, uint64(n))
			if round == 0 {
				first = answers
			}
			if !slices.Equal(answers, first) {
				t.Errorf("round %d answers %v, want %v", round, answers, first)
			}
			told(c, uint64(1000+round))
		}
	}
}

// R5: what Due answers hangs on what is set alone, not on how it came to be so.
func TestSameTimersOtherWay(t *testing.T) {
	for seed := range 500 {
		r := rand.New(rand.NewPCG(7, uint64(seed)))
		var l settings
		for range 1 + r.IntN(12) {
			l.set(r.IntN(20), r.IntN(6))
		}
		plain, other := timer.New(), timer.New()
		for _, s := range l {
			plain.Set(s.name, s.tick)
		}
		for range 20 {
			other.Set(r.IntN(20), r.IntN(6))
		}
		other.Due(r.IntN(4))
		for name := range 20 {
			if l.where(name) < 0 {
				other.Stop(name)
			}
		}
		for _, n := range r.Perm(len(l)) {
			other.Set(l[n].name, l[n].tick)
		}
		for tick := range 6 {
			if a, b := plain.Due(tick), other.Due(tick); !slices.Equal(a, b) {
				t.Fatalf("%v, Due %d: %v, and %v", l, tick, a, b)
			}
		}
	}
}

// told are all the answers of a script at random on a new Timers, one behind the other.
func told(c crowd, seed uint64) []int {
	x := timer.New()
	r := rand.New(rand.NewPCG(seed, 8))
	var answers []int
	note := func(n int, is bool) {
		answers = append(answers, n)
		if is {
			answers = append(answers, -1)
		}
	}
	for range 500 {
		switch r.IntN(6) {
		case 0, 1, 2:
			x.Set(c.name(r), c.tick(r))
		case 3:
			note(0, x.Stop(c.name(r)))
		case 4:
			answers = append(answers, x.Due(c.tick(r))...)
		default:
			note(x.At(c.name(r)))
		}
		note(x.Next())
		note(x.Len(), false)
	}
	return answers
}
