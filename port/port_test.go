package port_test

import (
	"math"
	"math/rand/v2"
	"slices"
	"strconv"
	"testing"

	"longeron/api"
	"longeron/port"
)

// far are numbers beyond all that there is, and such of which fewer bits would be within.
var far = []int{
	math.MinInt, math.MinInt + 1, -1 << 32, -1<<32 + 1, -1<<32 + 2, -65536, -65535, -256, -255, -4, -3, -2, -1,
	4, 5, 8, 255, 256, 257, 258, 65536, 65537, 1 << 32, 1<<32 + 1, 1<<32 + 2, 1 << 62, math.MaxInt - 1, math.MaxInt,
}

// strange are numbers that are no message.
var strange = []int{
	math.MinInt, math.MinInt + 1, -1 << 32, -1<<32 + 1, -65537, -65536, -65535, -256, -2, -1,
	65536, 65537, 65538, 131071, 131072, 1<<31 - 1, 1 << 31, 1<<32 - 1, 1 << 32, 1<<32 + 1, 1 << 62, math.MaxInt - 1, math.MaxInt,
}

// messages are the least and the greatest ones, and such in between of which a bit might be lost.
var messages = []int{0, 1, 2, 127, 128, 255, 256, 257, 4095, 32767, 32768, 32769, 65279, 65280, 65534, 65535}

func channel(from, to, depth int) api.Channel { return api.Channel{From: from, To: to, Depth: depth} }

// tabled is a right table of so many partitions, and of these channels.
func tabled(parts int, channels ...api.Channel) api.Table {
	x := api.Table{Frame: 20, Trial: 3, Channels: channels}
	for n := range parts {
		x.Parts = append(x.Parts, api.Part{Mem: 3 + n*4, Fuel: 30 - n*7, Hard: n * 300})
		x.Windows = append(x.Windows, api.Window{Part: n, From: 5 * n, Long: 4})
	}
	return x
}

// depths are all that there may be; 0 is a sampling channel's.
var depths = []int{0, 1, 2, 3, 4}

// tables are right ones: of no channels, of one of each depth, of several from one and to one, of the most there may be.
func tables() []api.Table {
	var all []api.Table
	for parts := 2; parts <= 4; parts++ {
		last := parts - 1
		all = append(all, tabled(parts))
		for _, d := range depths {
			all = append(all,
				tabled(parts, channel(0, last, d)),
				tabled(parts, channel(last, 0, d), channel(0, last, 4-d)),
				tabled(parts, channel(last, 1-1/last, d), channel(last, 0, (d+2)%5), channel(last, 0, (d+3)%5)))
		}
		all = append(all,
			tabled(parts, channel(0, 1, 0), channel(0, 1, 0), channel(0, last, 1), channel(0, last, 4)),
			tabled(parts, channel(1, 0, 0), channel(last, 0, 2), channel(1, 0, 3), channel(last, 0, 1)),
			tabled(parts, channel(last, 0, 4), channel(0, last, 4), channel(last, 0, 4), channel(0, 1, 4)))
	}
	return all
}

// call is one of the calls, and what it was handed.
type call struct {
	what string
	ns   [3]int
}

// pair is a Set, and what its channels have as the chapter's words have it: each list is that of a channel.
type pair struct {
	t     *testing.T
	set   *port.Set
	table api.Table
	lists [][]int
	story []call // the calls so far
}

// begin makes a Set, whose channels are empty.
func begin(t *testing.T, x api.Table) *pair {
	t.Helper()
	set, e := port.New(x)
	if set == nil || e != api.OK {
		t.Fatalf("New(%v): %v, %v", x, set, e)
	}
	p := &pair{t: t, set: set, table: x, lists: make([][]int, len(x.Channels))}
	p.judge()
	return p
}

func (p *pair) wrong(what string, got, want any) {
	p.t.Helper()
	p.t.Fatalf("channels %v, behind %v, %s: %v, want %v", p.table.Channels, p.story, what, got, want)
}

// judge says whether each channel has what it should, and none has it that there isn't.
func (p *pair) judge() {
	p.t.Helper()
	if n := p.set.Len(); n != len(p.lists) {
		p.wrong("Len", n, len(p.lists))
	}
	for c := -1; c <= len(p.lists); c++ {
		var want []int
		if p.there(c) {
			want = p.lists[c]
		}
		if has := p.set.Has(c); !slices.Equal(has, want) {
			p.wrong("Has "+strconv.Itoa(c), has, want)
		}
	}
}

func (p *pair) there(c int) bool { return c >= 0 && c < len(p.lists) }

// sent is what Send answers, as the chapter's words have it; what the channel has is changed with it.
func (p *pair) sent(part, c, n int) (bool, api.Errno) {
	if !p.there(c) || p.table.Channels[c].From != part {
		return false, api.ErrPort
	}
	if n < 0 || n > 65535 {
		return false, api.ErrRange
	}
	depth := p.table.Channels[c].Depth
	if depth == 0 {
		p.lists[c] = []int{n}
		return true, api.OK
	}
	if len(p.lists[c]) >= depth {
		return false, api.OK
	}
	p.lists[c] = append(p.lists[c], n)
	return true, api.OK
}

// got is what Get answers, likewise.
func (p *pair) got(part, c int) (int, bool, api.Errno) {
	if !p.there(c) || p.table.Channels[c].To != part {
		return 0, false, api.ErrPort
	}
	if len(p.lists[c]) == 0 {
		return 0, false, api.OK
	}
	n := p.lists[c][0]
	if p.table.Channels[c].Depth > 0 {
		p.lists[c] = p.lists[c][1:]
	}
	return n, true, api.OK
}

func (p *pair) send(part, c, n int) {
	p.t.Helper()
	is, e := p.set.Send(part, c, n)
	wantIs, wantE := p.sent(part, c, n)
	p.story = append(p.story, call{"Send", [3]int{part, c, n}})
	if is != wantIs || e != wantE {
		p.wrong("it", []any{is, e}, []any{wantIs, wantE})
	}
	p.judge()
}

func (p *pair) get(part, c int) {
	p.t.Helper()
	n, is, e := p.set.Get(part, c)
	wantN, wantIs, wantE := p.got(part, c)
	p.story = append(p.story, call{"Get", [3]int{part, c}})
	if n != wantN || is != wantIs || e != wantE {
		p.wrong("it", []any{n, is, e}, []any{wantN, wantIs, wantE})
	}
	p.judge()
}

func (p *pair) drain(part int) {
	p.t.Helper()
	p.set.Drain(part)
	for c, x := range p.table.Channels {
		if x.To == part {
			p.lists[c] = nil
		}
	}
	p.story = append(p.story, call{"Drain", [3]int{part}})
	p.judge()
}

// fill sends so many messages through a channel, each another one.
func (p *pair) fill(c, many int) {
	p.t.Helper()
	for n := range many {
		p.send(p.table.Channels[c].From, c, 1000*c+n+1)
	}
}

// take gets so many messages of a channel.
func (p *pair) take(c, many int) {
	p.t.Helper()
	for range many {
		p.get(p.table.Channels[c].To, c)
	}
}

// refuse says whether Send and Get refuse a call, whatever the message is, and nothing is changed.
func (p *pair) refuse(part, c int) {
	p.t.Helper()
	for _, n := range []int{7, 0, 65535, -1, 65536, math.MinInt, math.MaxInt} {
		if !p.there(c) || p.table.Channels[c].From != part {
			p.send(part, c, n)
		}
	}
	if !p.there(c) || p.table.Channels[c].To != part {
		p.get(part, c)
	}
}

// states calls do with a pair in each state in which a channel may be: with each number of messages from none on to one too many; and likewise, but behind some that were got.
func states(t *testing.T, x api.Table, c int, do func(p *pair)) {
	t.Helper()
	depth := x.Channels[c].Depth
	for turned := range depth + 2 {
		for many := range depth + 2 {
			p := begin(t, x)
			p.fill(c, turned)
			p.take(c, turned)
			p.fill(c, many)
			do(p)
		}
	}
}

// P16.1: ordinary.

// The chapter's example.
func TestExample(t *testing.T) {
	s, e := port.New(tabled(2, channel(0, 1, 2)))
	if e != api.OK {
		t.Fatal(e)
	}
	for n, want := range []bool{true, true, false} {
		if is, e := s.Send(0, 0, n+1); is != want || e != api.OK {
			t.Errorf("Send %d: %v, %v", n+1, is, e)
		}
	}
	for _, want := range []int{1, 2} {
		if n, is, e := s.Get(1, 0); n != want || !is || e != api.OK {
			t.Errorf("Get: %d, %v, %v; want %d", n, is, e, want)
		}
	}
	if n, is, e := s.Get(1, 0); n != 0 || is || e != api.OK {
		t.Errorf("Get of none: %d, %v, %v", n, is, e)
	}
}

// A sampling channel has what was sent last, and keeps it.
func TestSampling(t *testing.T) {
	s, e := port.New(tabled(2, channel(1, 0, 0)))
	if e != api.OK {
		t.Fatal(e)
	}
	for _, n := range []int{5, 6, 0, 65535} {
		if is, e := s.Send(1, 0, n); !is || e != api.OK {
			t.Errorf("Send %d: %v, %v", n, is, e)
		}
		for range 3 {
			if got, is, e := s.Get(0, 0); got != n || !is || e != api.OK {
				t.Errorf("Get: %d, %v, %v; want %d", got, is, e, n)
			}
			if has := s.Has(0); !slices.Equal(has, []int{n}) {
				t.Errorf("Has: %v, want %d", has, n)
			}
		}
	}
}

// rows calls do with each row of n channels among so many partitions; their depths go round.
func rows(parts, n int, do func(l []api.Channel)) {
	var pairs []api.Channel
	for from := range parts {
		for to := range parts {
			if from != to {
				pairs = append(pairs, channel(from, to, (2*from+to)%5))
			}
		}
	}
	many := 1
	for range n {
		many *= len(pairs)
	}
	for at := range many {
		var l []api.Channel
		for rest := at; len(l) < n; rest /= len(pairs) {
			l = append(l, pairs[rest%len(pairs)])
		}
		do(l)
	}
}

// Each row of up to four channels among two and three partitions, and of up to three among four: empty at first; what is sent at one end is got at the other one alone.
func TestEachRowOfChannels(t *testing.T) {
	for parts := 2; parts <= 4; parts++ {
		for n := range 5 - parts/4 {
			rows(parts, n, func(l []api.Channel) {
				p := begin(t, tabled(parts, l...))
				for c := -1; c <= n; c++ {
					for part := -1; part <= parts; part++ {
						p.get(part, c)
						p.send(part, c, 10*part+c+20)
					}
				}
				for c := -1; c <= n; c++ {
					for part := -1; part <= parts; part++ {
						p.get(part, c)
					}
				}
			})
		}
	}
}

// Four channels with each choice of their depths: each takes as many messages as it is deep.
func TestEachDepths(t *testing.T) {
	for choice := range 5 * 5 * 5 * 5 {
		a, b, c, d := choice%5, choice/5%5, choice/25%5, choice/125
		p := begin(t, tabled(3, channel(0, 1, a), channel(1, 2, b), channel(2, 1, c), channel(0, 1, d)))
		for round := range 6 {
			for n, x := range p.table.Channels {
				p.send(x.From, n, 10*round+n)
			}
		}
		for range 6 {
			for n, x := range p.table.Channels {
				p.get(x.To, n)
			}
		}
	}
}

// Each message that there is comes out as it was sent, at either kind.
func TestEachMessage(t *testing.T) {
	s, e := port.New(tabled(2, channel(0, 1, 0), channel(0, 1, 1), channel(0, 1, 4)))
	if e != api.OK {
		t.Fatal(e)
	}
	for n := range 65536 {
		for c := range 3 {
			if is, e := s.Send(0, c, n); !is || e != api.OK {
				t.Fatalf("Send %d: %v, %v", n, is, e)
			}
			if has := s.Has(c); !slices.Equal(has, []int{n}) {
				t.Fatalf("Has: %v, want %d", has, n)
			}
			if got, is, e := s.Get(1, c); got != n || !is || e != api.OK {
				t.Fatalf("Get: %d, %v, %v; want %d", got, is, e, n)
			}
		}
	}
}

// P16.1: the edges.

// wrongTables are ways in which a right table of three partitions with four channels and three windows is right no longer: those that layer 5 names.
func wrongTables() []func(x *api.Table) {
	var all []func(x *api.Table)
	number := func(of func(x *api.Table) *int, values ...int) {
		for _, n := range append(values, math.MinInt, math.MaxInt, -1<<32, 1<<32) {
			all = append(all, func(x *api.Table) { *of(x) = n })
		}
	}
	number(func(x *api.Table) *int { return &x.Frame }, -1, 0, 13, 65)
	number(func(x *api.Table) *int { return &x.Trial }, -1, 0, 8)
	for n := range 3 {
		number(func(x *api.Table) *int { return &x.Parts[n].Mem }, -1, 0, 17)
		number(func(x *api.Table) *int { return &x.Parts[n].Fuel }, -1, 0, 33)
		number(func(x *api.Table) *int { return &x.Parts[n].Hard }, -1, 65536)
		number(func(x *api.Table) *int { return &x.Windows[n].Part }, -1, 3)
		number(func(x *api.Table) *int { return &x.Windows[n].From }, -1, 65)
		number(func(x *api.Table) *int { return &x.Windows[n].Long }, -1, 0, 21)
	}
	for n := range 4 {
		number(func(x *api.Table) *int { return &x.Channels[n].From }, -1, 3)
		number(func(x *api.Table) *int { return &x.Channels[n].To }, -1, 3)
		number(func(x *api.Table) *int { return &x.Channels[n].Depth }, -1, 5)
		all = append(all,
			func(x *api.Table) { x.Channels[n].From = x.Channels[n].To },
			func(x *api.Table) { x.Channels[n].To = x.Channels[n].From })
	}
	return append(all,
		func(x *api.Table) { *x = api.Table{} },
		func(x *api.Table) { x.Parts = nil },
		func(x *api.Table) { x.Parts = x.Parts[:1] },
		func(x *api.Table) { x.Parts = x.Parts[:2] },
		func(x *api.Table) { x.Parts = append(x.Parts, x.Parts[0], x.Parts[0]) },
		func(x *api.Table) { x.Windows = nil },
		func(x *api.Table) { x.Windows = x.Windows[1:] },
		func(x *api.Table) { x.Windows = slices.Repeat(x.Windows[:1], 9) },
		func(x *api.Table) { x.Windows[0].Long = 6 },
		func(x *api.Table) { x.Windows[1].From = 3 },
		func(x *api.Table) { x.Windows[0], x.Windows[1] = x.Windows[1], x.Windows[0] },
		func(x *api.Table) { x.Windows[0].Part = 1 },
		func(x *api.Table) { x.Channels = append(x.Channels, x.Channels[0]) },
		func(x *api.Table) { x.Channels = slices.Repeat(x.Channels, 64) },
	)
}

// Of a table that isn't right no Set is made, whatever is wrong with it.
func TestWrongTables(t *testing.T) {
	for n, turn := range wrongTables() {
		x := tabled(3, channel(0, 1, 0), channel(1, 2, 2), channel(2, 0, 4), channel(0, 1, 1))
		if s, e := port.New(x); s == nil || e != api.OK {
			t.Fatalf("New(%v): %v, %v", x, s, e)
		}
		turn(&x)
		if s, e := port.New(x); s != nil || e != api.ErrTable {
			t.Errorf("%d: New(%v): %v, %v", n, x, s, e)
		}
	}
	one := api.Table{Frame: 4, Trial: 1, Parts: []api.Part{{Mem: 4, Fuel: 4}}, Windows: []api.Window{{Long: 4}}}
	if s, e := port.New(one); s != nil || e != api.ErrTable {
		t.Errorf("New(%v): %v, %v", one, s, e)
	}
}

// A channel that there isn't is ErrPort for each partition, whatever the message is; and has none.
func TestNoSuchChannel(t *testing.T) {
	for _, x := range tables() {
		p := begin(t, x)
		for c := range x.Channels {
			p.fill(c, 1)
		}
		for _, c := range append(far, len(x.Channels), len(x.Channels)+1, len(x.Channels)-5) {
			if p.there(c) {
				continue
			}
			for part := -1; part <= len(x.Parts); part++ {
				p.refuse(part, c)
			}
			if has := p.set.Has(c); len(has) != 0 {
				t.Errorf("Has(%d): %v", c, has)
			}
		}
	}
}

// A partition that isn't the channel's own at that end is refused, the other end's, too, in each state of the channel.
func TestOtherPartitions(t *testing.T) {
	for _, x := range tables() {
		for c := range x.Channels {
			states(t, x, c, func(p *pair) {
				for _, part := range append([]int{0, 1, 2, 3, 4}, far...) {
					p.story = nil
					p.refuse(part, c)
				}
				p.take(c, 6)
			})
		}
	}
}

// What is no message is refused at each channel in each state, a full one, too, which loses none thereby.
func TestNoMessages(t *testing.T) {
	for _, x := range tables() {
		for c, ends := range x.Channels {
			states(t, x, c, func(p *pair) {
				for _, n := range strange {
					p.send(ends.From, c, n)
				}
				p.take(c, 6)
			})
		}
	}
}

// Both are wrong: that of the channel is told, whatever is wrong with the message.
func TestErrorsOrder(t *testing.T) {
	s, e := port.New(tabled(3, channel(0, 1, 1)))
	if e != api.OK {
		t.Fatal(e)
	}
	for range 2 { // empty, and full
		for _, n := range append([]int{0, 65535}, strange...) {
			for _, at := range [][2]int{{1, 0}, {2, 0}, {3, 0}, {-1, 0}, {0, 1}, {0, -1}, {0, math.MinInt}, {0, math.MaxInt}, {math.MinInt, 0}, {math.MaxInt, 0}, {math.MaxInt, math.MaxInt}} {
				if is, e := s.Send(at[0], at[1], n); is || e != api.ErrPort {
					t.Errorf("Send(%d, %d, %d): %v, %v", at[0], at[1], n, is, e)
				}
			}
		}
		for _, n := range strange {
			if is, e := s.Send(0, 0, n); is || e != api.ErrRange {
				t.Errorf("Send(0, 0, %d): %v, %v", n, is, e)
			}
		}
		s.Send(0, 0, 9)
	}
}

// Each message in each state of each channel: taken, or lost; and what comes out behind that.
func TestSendInEachState(t *testing.T) {
	for _, x := range tables() {
		for c, ends := range x.Channels {
			for _, n := range messages {
				states(t, x, c, func(p *pair) {
					p.send(ends.From, c, n)
					p.take(c, 1)
					p.send(ends.From, c, n)
					p.take(c, 7)
				})
			}
		}
	}
}

// P16.1 and P16.2: what channels have.

// A queue is filled and emptied in turns, many times more often than it is deep, with each number of messages that wait meanwhile.
func TestTurns(t *testing.T) {
	for _, depth := range depths[1:] {
		for waits := range depth + 1 {
			p := begin(t, tabled(2, channel(1, 0, depth), channel(1, 0, 0)))
			p.send(1, 1, 65535)
			p.fill(0, waits)
			for n := range 3000 {
				p.story = nil
				p.send(1, 0, n)
				p.get(0, 0)
			}
			p.take(0, 6)
			for n := range 300 {
				p.story = nil
				p.fill(0, n%6)
				p.take(0, n%7)
			}
		}
	}
}

// scripts calls do with each row of so many numbers below most.
func scripts(long, most int, do func(script []int)) {
	script := make([]int, long)
	for {
		do(script)
		at := 0
		for at < long && script[at] == most-1 {
			script[at] = 0
			at++
		}
		if at == long {
			return
		}
		script[at]++
	}
}

// Each script of eight calls of Send, Get and Drain at a channel of each depth.
func TestEachScriptOfOne(t *testing.T) {
	for _, depth := range depths {
		x := tabled(2, channel(0, 1, depth))
		scripts(8, 3, func(script []int) {
			p := begin(t, x)
			for n, what := range script {
				switch what {
				case 0:
					p.send(0, 0, n+1)
				case 1:
					p.get(1, 0)
				case 2:
					p.drain(1)
				}
			}
		})
	}
}

// Each script of six calls at two channels, of either kind, between the same ends or from one end to the other and back.
func TestEachScriptOfTwo(t *testing.T) {
	for _, l := range [][]api.Channel{
		{channel(0, 1, 0), channel(0, 1, 1)},
		{channel(0, 1, 2), channel(1, 0, 1)},
		{channel(1, 0, 0), channel(0, 1, 0)},
		{channel(1, 0, 2), channel(1, 0, 3)},
	} {
		x := tabled(2, l...)
		scripts(6, 6, func(script []int) {
			p := begin(t, x)
			for n, what := range script {
				switch c := what % 2; what / 2 {
				case 0:
					p.send(l[c].From, c, n+1)
				case 1:
					p.get(l[c].To, c)
				case 2:
					p.drain(c)
				}
			}
		})
	}
}

// some picks one of these numbers.
func some(r *rand.Rand, l []int) int { return l[r.IntN(len(l))] }

// step does a call at random; most often one that is answered well.
func (p *pair) step(r *rand.Rand) {
	p.t.Helper()
	part, c, n := r.IntN(len(p.table.Parts)), 0, r.IntN(65536)
	if len(p.lists) > 0 {
		c = r.IntN(len(p.lists))
	}
	if r.IntN(50) == 0 {
		c = some(r, far)
	}
	if r.IntN(50) == 0 {
		n = some(r, strange)
	}
	if r.IntN(50) == 0 {
		part = some(r, far)
	}
	well := p.there(c) && r.IntN(10) > 0
	switch what := r.IntN(41); {
	case what < 22 && well:
		p.send(p.table.Channels[c].From, c, n)
	case what < 22:
		p.send(part, c, n)
	case what < 40 && well:
		p.get(p.table.Channels[c].To, c)
	case what < 40:
		p.get(part, c)
	default:
		p.drain(part)
	}
}

// Long scripts at random, at channels of each kind.
func TestScriptsAtRandom(t *testing.T) {
	for n, x := range tables() {
		for seed := range 4 {
			r := rand.New(rand.NewPCG(uint64(n), uint64(seed)))
			p := begin(t, x)
			for step := range 4000 {
				if step%50 == 0 {
					p.story = nil
				}
				p.step(r)
			}
		}
	}
}

// Likewise at tables that are at random, too.
func TestTablesAtRandom(t *testing.T) {
	for seed := range 2000 {
		r := rand.New(rand.NewPCG(16, uint64(seed)))
		parts := 2 + r.IntN(3)
		var l []api.Channel
		for range r.IntN(5) {
			from := r.IntN(parts)
			l = append(l, channel(from, (from+1+r.IntN(parts-1))%parts, r.IntN(5)))
		}
		p := begin(t, tabled(parts, l...))
		for range 60 {
			p.step(r)
		}
	}
}

// Drain of each partition, and of such as there aren't, with each number of messages in the channels; and what is sent behind it.
func TestDrain(t *testing.T) {
	for _, x := range tables() {
		for _, part := range append([]int{0, 1, 2, 3}, far...) {
			for many := range 6 {
				p := begin(t, x)
				for c := range x.Channels {
					p.fill(c, many)
				}
				p.drain(part)
				p.drain(part)
				for c := range x.Channels {
					p.take(c, 1)
					p.fill(c, 6)
					p.take(c, 6)
				}
			}
		}
	}
}

// A partition with no channel to it, with one, and with several of either kind; what comes from it stays.
func TestDrainByHand(t *testing.T) {
	x := tabled(4, channel(1, 0, 0), channel(2, 0, 3), channel(0, 1, 2), channel(0, 2, 0))
	s, e := port.New(x)
	if e != api.OK {
		t.Fatal(e)
	}
	for n := range 2 {
		for c, ends := range x.Channels {
			s.Send(ends.From, c, 10*c+n)
		}
	}
	for _, d := range []struct {
		part int
		want [4][]int
	}{
		{3, [4][]int{{1}, {10, 11}, {20, 21}, {31}}},
		{-1, [4][]int{{1}, {10, 11}, {20, 21}, {31}}},
		{4, [4][]int{{1}, {10, 11}, {20, 21}, {31}}},
		{1, [4][]int{{1}, {10, 11}, {}, {31}}},
		{0, [4][]int{{}, {}, {}, {31}}},
		{2, [4][]int{{}, {}, {}, {}}},
	} {
		s.Drain(d.part)
		for c, want := range d.want {
			if has := s.Has(c); !slices.Equal(has, want) {
				t.Errorf("Drain %d: channel %d has %v, want %v", d.part, c, has, want)
			}
		}
	}
	for c, ends := range x.Channels {
		if n, is, e := s.Get(ends.To, c); n != 0 || is || e != api.OK {
			t.Errorf("Get of channel %d, drained: %d, %v, %v", c, n, is, e)
		}
	}
}

// P16.2: Of a nil Set.
func TestNil(t *testing.T) {
	var s *port.Set
	for _, a := range append([]int{0, 1, 2, 3}, far...) {
		for _, b := range append([]int{0, 1, 2, 3}, far...) {
			for _, n := range append([]int{0, 1, 65535}, strange...) {
				if is, e := s.Send(a, b, n); is || e != api.ErrNil {
					t.Errorf("Send(%d, %d, %d): %v, %v", a, b, n, is, e)
				}
			}
			if n, is, e := s.Get(a, b); n != 0 || is || e != api.ErrNil {
				t.Errorf("Get(%d, %d): %d, %v, %v", a, b, n, is, e)
			}
		}
		s.Drain(a)
		if has := s.Has(a); len(has) != 0 {
			t.Errorf("Has(%d): %v", a, has)
		}
		if n := s.Len(); n != 0 {
			t.Errorf("Len: %d", n)
		}
	}
}

// R1 to R3: calls at all numbers end, and what is refused changes nothing, whatever the state is.
func TestAllNumbers(t *testing.T) {
	numbers := append([]int{0, 1, 2, 3}, far...)
	for _, x := range tables() {
		p := begin(t, x)
		for c := range x.Channels {
			p.fill(c, 2)
		}
		for _, part := range numbers {
			for _, c := range numbers {
				p.story = nil
				for _, n := range []int{math.MinInt, -1, 0, 65535, 65536, math.MaxInt} {
					p.send(part, c, n)
				}
				p.get(part, c)
			}
			p.drain(part)
		}
	}
}

// copyOf is a table of memory of its own.
func copyOf(x api.Table) api.Table {
	x.Parts, x.Windows, x.Channels = slices.Clone(x.Parts), slices.Clone(x.Windows), slices.Clone(x.Channels)
	return x
}

// spoil writes over all that a table has.
func spoil(x api.Table) {
	for n := range x.Parts {
		x.Parts[n] = api.Part{Mem: -1, Fuel: -1, Hard: -1}
	}
	for n := range x.Windows {
		x.Windows[n] = api.Window{Part: -1, From: -1, Long: -1}
	}
	for n, c := range x.Channels {
		x.Channels[n] = channel(c.To, c.From, 4-c.Depth)
	}
}

// R4: the table may change behind New, and the Set stays as it is.
func TestTableMayChange(t *testing.T) {
	for n, x := range tables() {
		handed := copyOf(x)
		p := begin(t, handed)
		p.table = x
		r := rand.New(rand.NewPCG(4, uint64(n)))
		for round := range 300 {
			p.story = nil
			p.step(r)
			if round%30 == 10 {
				spoil(handed)
			}
		}
	}
}

// R4: New leaves the table as it is, spare room included.
func TestTableStays(t *testing.T) {
	for _, wrong := range []bool{false, true} {
		for _, x := range tables() {
			x.Parts = append(x.Parts, slices.Repeat([]api.Part{{Mem: 77}}, 9)...)[:len(x.Parts)]
			x.Windows = append(x.Windows, slices.Repeat([]api.Window{{Part: 77}}, 9)...)[:len(x.Windows)]
			x.Channels = append(x.Channels, slices.Repeat([]api.Channel{{From: 77}}, 9)...)[:len(x.Channels)]
			if wrong {
				x.Trial = 0
			}
			whole := x
			whole.Parts, whole.Windows, whole.Channels = x.Parts[:cap(x.Parts)], x.Windows[:cap(x.Windows)], x.Channels[:cap(x.Channels)]
			was := copyOf(whole)
			s, _ := port.New(x)
			for c, ends := range x.Channels {
				for n := range 6 {
					s.Send(ends.From, c, n)
				}
				s.Get(ends.To, c)
				s.Drain(ends.To)
			}
			if !slices.Equal(whole.Parts, was.Parts) || !slices.Equal(whole.Windows, was.Windows) || !slices.Equal(whole.Channels, was.Channels) {
				t.Errorf("%v, was %v", whole, was)
			}
		}
	}
}

// R4: what Has told stays as it was, whatever comes behind it.
func TestHasStays(t *testing.T) {
	for n, x := range tables() {
		p := begin(t, x)
		r := rand.New(rand.NewPCG(5, uint64(n)))
		var told, was [][]int
		for range 200 {
			p.step(r)
			for c := range x.Channels {
				has := p.set.Has(c)
				told = append(told, has)
				was = append(was, slices.Clone(has))
			}
		}
		for n, has := range told {
			if !slices.Equal(has, was[n]) {
				t.Errorf("%v, was %v", has, was[n])
			}
		}
	}
}

// wipe writes over a list, spare room included.
func wipe(l []int) {
	for n := range l[:cap(l)] {
		l[:cap(l)][n] = -77
	}
}

// R4: what Has told may be written over, spare room included, and the Set, and what it told beside, stay as they were.
func TestHasIsNew(t *testing.T) {
	for n, x := range tables() {
		p := begin(t, x)
		r := rand.New(rand.NewPCG(6, uint64(n)))
		for range 400 {
			p.story = nil
			p.step(r)
			for c := range x.Channels {
				has, other := p.set.Has(c), p.set.Has(c)
				wipe(has)
				if !slices.Equal(other, p.lists[c]) {
					t.Errorf("%v, want %v", other, p.lists[c])
				}
				wipe(other) // as it is the last one, memory that the Set still has would be wiped, too
			}
			p.judge()
		}
	}
}

// R5: two Sets of one table have nothing to do with each other.
func TestTwoSets(t *testing.T) {
	for n, x := range tables() {
		p, q := begin(t, x), begin(t, x)
		r := rand.New(rand.NewPCG(7, uint64(n)))
		for round := range 500 {
			p.story, q.story = nil, nil
			one, other := p, q
			if r.IntN(2) == 0 {
				one, other = q, p
			}
			one.step(r)
			other.judge()
			if round == 250 {
				q = begin(t, x)
				p.judge()
			}
		}
	}
}

// R5: the same calls on a new Set answer the same again, whatever was done meanwhile.
func TestSameAgain(t *testing.T) {
	for _, x := range tables() {
		var first []int
		for round := range 3 {
			answers := told(t, x, 8)
			if round == 0 {
				first = answers
			}
			if !slices.Equal(answers, first) {
				t.Errorf("channels %v: round %d answers %v, want %v", x.Channels, round, answers, first)
			}
			told(t, x, uint64(100+round))
		}
	}
}

// told are all the answers of a script at random on a new Set, one behind the other.
func told(t *testing.T, x api.Table, seed uint64) []int {
	t.Helper()
	s, e := port.New(x)
	if e != api.OK {
		t.Fatal(e)
	}
	r := rand.New(rand.NewPCG(seed, 8))
	var answers []int
	for range 500 {
		part, c, n := r.IntN(6)-1, r.IntN(6)-1, r.IntN(65540)-2
		switch r.IntN(9) {
		case 0:
			s.Drain(part)
		case 1, 2, 3, 4:
			is, e := s.Send(part, c, n)
			answers = append(answers, int(e))
			if is {
				answers = append(answers, n)
			}
		default:
			n, is, e := s.Get(part, c)
			answers = append(answers, n, int(e))
			if is {
				answers = append(answers, -1)
			}
		}
		answers = append(answers, s.Has(c)...)
		answers = append(answers, s.Len())
	}
	return answers
}

// FuzzPort: whatever the table and the calls are, they are answered as the chapter's words have it.
func FuzzPort(f *testing.F) {
	f.Add([]byte{0, 0, 1, 2, 0, 0, 5, 0, 0, 6, 0, 0, 7, 1, 0, 0, 1, 0, 0, 1, 0, 0})
	f.Add([]byte{2, 4, 1, 0, 0, 2, 1, 3, 0, 2, 4, 3, 1, 1, 0, 0, 9, 0, 1, 8, 2, 1, 0, 1, 3, 3})
	f.Fuzz(func(t *testing.T, b []byte) {
		next := func() int {
			if len(b) == 0 {
				return 0
			}
			n := int(b[0])
			b = b[1:]
			return n
		}
		parts := 2 + next()%3
		var l []api.Channel
		for range next() % 5 {
			from := next() % parts
			l = append(l, channel(from, (from+1+next()%(parts-1))%parts, next()%5))
		}
		p := begin(t, tabled(parts, l...))
		for len(b) > 0 {
			what, c, n := next(), next()%(len(l)+2)-1, next()*258-2
			part := what / 8 % 6
			if what%2 == 0 && p.there(c) {
				part = []int{l[c].From, l[c].To}[what/2%2]
			}
			switch what / 2 % 4 {
			case 0, 2:
				p.send(part, c, n)
			case 1:
				p.get(part, c)
			default:
				p.drain(part)
			}
		}
	})
}
