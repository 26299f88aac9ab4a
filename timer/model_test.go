package timer_test

import (
	"math"
	"math/rand/v2"
	"slices"
	"strconv"
	"testing"

	"longeron/timer"
)

// extremes are names and ticks: the least and the greatest, those about zero, and such of which fewer bits would be another one of them.
var extremes = []int{
	math.MinInt, math.MinInt + 1, -1 << 62, -1<<32 - 1, -1 << 32, -1<<32 + 1, math.MinInt32 - 1, math.MinInt32, -65536, -256, -2, -1,
	0, 1, 2, 255, 256, 65536, math.MaxInt32, math.MaxInt32 + 1, 1<<32 - 1, 1 << 32, 1<<32 + 1, 1 << 62, math.MaxInt - 1, math.MaxInt,
}

// setting is a timer that is set to a tick.
type setting struct{ name, tick int }

// settings are a plain list of timers, each of which is there once, by the chapter's words.
type settings []setting

func (l settings) where(name int) int {
	return slices.IndexFunc(l, func(s setting) bool { return s.name == name })
}

func (l settings) at(name int) (int, bool) {
	if n := l.where(name); n >= 0 {
		return l[n].tick, true
	}
	return 0, false
}

func (l *settings) stop(name int) bool {
	n := l.where(name)
	if n < 0 {
		return false
	}
	*l = slices.Delete(*l, n, n+1)
	return true
}

func (l *settings) set(name, tick int) {
	l.stop(name)
	*l = append(*l, setting{name, tick})
}

// first tells which one is ahead of all others in the order: that of the earliest tick, and of those the one of the least name.
func (l settings) first() int {
	first := 0
	for n, s := range l {
		if s.tick < l[first].tick || s.tick == l[first].tick && s.name < l[first].name {
			first = n
		}
	}
	return first
}

func (l settings) next() (int, bool) {
	if len(l) == 0 {
		return 0, false
	}
	return l[l.first()].tick, true
}

func (l *settings) due(tick int) []int {
	var names []int
	for len(*l) > 0 {
		n := l.first()
		if (*l)[n].tick > tick {
			break
		}
		names = append(names, (*l)[n].name)
		*l = slices.Delete(*l, n, n+1)
	}
	return names
}

// call is one of the calls that change timers, and what it was handed.
type call struct {
	what string
	ns   []int
}

// pair is a Timers, and the plain list that should be the same.
type pair struct {
	t      *testing.T
	timers *timer.Timers
	list   settings
	others []int  // names that are asked for, too, though they aren't set
	story  []call // the calls so far
}

// begin makes a Timers, of which none is set.
func begin(t *testing.T, others ...int) *pair {
	t.Helper()
	p := &pair{t: t, timers: timer.New(), others: others}
	if p.timers == nil {
		t.Fatal("New: nil")
	}
	p.judge()
	return p
}

// begun are timers that were set in that order.
func begun(t *testing.T, l ...setting) *pair {
	t.Helper()
	p := begin(t)
	for _, s := range l {
		p.set(s.name, s.tick)
	}
	return p
}

func (p *pair) wrong(what string, got, want any) {
	p.t.Helper()
	p.t.Fatalf("behind %v, %s: %v, want %v", p.story, what, got, want)
}

// judge says whether Len, Next and At tell what they should, twice, as asking changes nothing.
func (p *pair) judge() {
	p.t.Helper()
	for range 2 {
		if n := p.timers.Len(); n != len(p.list) {
			p.wrong("Len", n, len(p.list))
		}
		n, is := p.timers.Next()
		if wantN, wantIs := p.list.next(); n != wantN || is != wantIs {
			p.wrong("Next", []any{n, is}, []any{wantN, wantIs})
		}
		for _, s := range p.list {
			p.judgeAt(s.name)
		}
		for _, name := range p.others {
			p.judgeAt(name)
		}
	}
}

func (p *pair) judgeAt(name int) {
	p.t.Helper()
	n, is := p.timers.At(name)
	if wantN, wantIs := p.list.at(name); n != wantN || is != wantIs {
		p.wrong("At "+strconv.Itoa(name), []any{n, is}, []any{wantN, wantIs})
	}
}

func (p *pair) set(name, tick int) {
	p.t.Helper()
	p.timers.Set(name, tick)
	p.list.set(name, tick)
	p.story = append(p.story, call{"Set", []int{name, tick}})
	p.judge()
}

func (p *pair) stop(name int) {
	p.t.Helper()
	got, want := p.timers.Stop(name), p.list.stop(name)
	p.story = append(p.story, call{"Stop", []int{name}})
	if got != want {
		p.wrong("it", got, want)
	}
	p.judgeAt(name)
	p.judge()
}

// due answers what Due did.
func (p *pair) due(tick int) []int {
	p.t.Helper()
	got, want := p.timers.Due(tick), p.list.due(tick)
	p.story = append(p.story, call{"Due", []int{tick}})
	if !slices.Equal(got, want) {
		p.wrong("it", got, want)
	}
	for _, name := range want {
		p.judgeAt(name)
	}
	p.judge()
	return got
}

// drain lets them be due one tick behind the other, and so says whether each stands where it should.
func (p *pair) drain() {
	p.t.Helper()
	for len(p.list) > 0 {
		tick, _ := p.list.next()
		if tick > math.MinInt {
			p.due(tick - 1)
		}
		p.due(tick)
	}
	p.due(math.MaxInt)
}

// step does a call at random, of names and ticks that these functions tell; most often one that finds a timer.
func (p *pair) step(r *rand.Rand, name, tick func() int) {
	p.t.Helper()
	known := func() int {
		if len(p.list) > 0 && r.IntN(4) > 0 {
			return p.list[r.IntN(len(p.list))].name
		}
		return name()
	}
	switch what := r.IntN(20); {
	case what < 8:
		p.set(name(), tick())
	case what < 12:
		p.set(known(), tick())
	case what < 16:
		p.stop(known())
	case what < 18 && len(p.list) > 0:
		p.due(p.list[r.IntN(len(p.list))].tick)
	case what < 19:
		next, _ := p.list.next()
		p.due(next)
	default:
		p.due(tick())
	}
}

// orders calls do with each order of the numbers below n.
func orders(n int, do func(order []int)) {
	order := make([]int, n)
	var lay func(at int)
	lay = func(at int) {
		if at == n {
			do(order)
			return
		}
		for x := range n {
			if !slices.Contains(order[:at], x) {
				order[at] = x
				lay(at + 1)
			}
		}
	}
	lay(0)
}

// rows calls do with each row of so many numbers below most.
func rows(long, most int, do func(row []int)) {
	row := make([]int, long)
	for {
		do(row)
		at := 0
		for at < long && row[at] == most-1 {
			row[at] = 0
			at++
		}
		if at == long {
			return
		}
		row[at]++
	}
}
