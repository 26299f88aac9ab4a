package loader_test

import (
	"math"
	"math/rand/v2"
	"slices"
	"testing"

	"longeron/api"
	"longeron/store"
)

// What scripts are to reach, and is counted.
const (
	sealed = iota
	trialOver
	timedOut
	lateHeard
	wentDown
	madeAnew
	counts
)

// script is a bench, and what it is to be told next, at random.
type script struct {
	*bench
	pick    func(n int) int // a number below n
	tickNow int
	version int
	plans   [4]plan // by sessions
	told    []api.Pdu
	seen    [counts]int
}

// plan is what a session is to load.
type plan struct {
	part int
	b    []byte
	code int
}

func newScript(t *testing.T, pick func(n int) int) *script {
	t.Helper()
	s := &script{bench: begin(t), pick: pick, version: 20, tickNow: pick(60) - 30}
	for n := range s.plans {
		s.plan(n)
	}
	return s
}

// plan makes a session's anew: an image that fits, or one that doesn't.
func (s *script) plan(n int) {
	s.t.Helper()
	s.version++
	part := s.pick(parts)
	i := coded(part, s.version, 1+s.pick(40))
	switch s.pick(12) {
	case 0:
		i.Version = 1
	case 1:
		i.Part = (part + 1) % parts
	case 2:
		i.Mem = 16
	case 3:
		i.Sends = 8
	}
	b := bytesOf(s.t, i)
	if s.pick(12) == 0 {
		b[s.pick(len(b))] ^= 4
	}
	s.plans[n] = plan{part: part, b: b}
}

// number answers mostly one of those that there are plans for.
func (s *script) number() int {
	if s.pick(12) == 0 {
		return []int{0, 4, 5, 255, 256, 257, 65535}[s.pick(7)]
	}
	return 1 + s.pick(3)
}

// later answers the next tick: mostly close behind the last one, now and then far, or below it.
func (s *script) later() int {
	switch s.pick(16) {
	case 0:
		s.tickNow += 18 + s.pick(4)
	case 1:
		return s.tickNow - s.pick(40)
	case 2:
		return []int{math.MinInt, 0, s.tickNow, -1}[s.pick(4)]
	default:
		s.tickNow += s.pick(3)
	}
	return s.tickNow
}

// planned answers a session, most often the one that is open, and its plan.
func (s *script) planned() (int, plan) {
	n := s.number()
	if open, _, is := s.l.Open(); is && s.pick(5) > 0 {
		n = open
	}
	if n < 1 || n >= len(s.plans) {
		return n, s.plans[0]
	}
	return n, s.plans[n]
}

// message answers one at random.
func (s *script) message() api.Pdu {
	n, x := s.planned()
	switch s.pick(20) {
	case 0, 1, 2, 3:
		p := open(n, x.part, len(x.b))
		switch s.pick(10) {
		case 0:
			p.Size = s.pick(170)
		case 1:
			p.Part = s.pick(6)
		case 2:
			p.Part = s.pick(256)
		}
		return p
	case 4, 5, 6, 7, 8:
		return block(n, s.pick(blocksOf(len(x.b))+1), x.b)
	case 9, 10, 11:
		if _, _, is := s.l.Open(); is { // the first one that is missing, so that all are there at last
			st, _ := s.s.Stage(x.part)
			for no := range 10 {
				if st.Have>>no&1 == 0 {
					return block(n, no, x.b)
				}
			}
		}
		return block(n, s.pick(256), x.b)
	case 12, 13, 14:
		return done(n)
	case 15:
		return abort(n)
	case 16, 17:
		return ask(n)
	}
	all := append(wrongs(), well(done(n)), refused(ask(n), api.ErrState), status(n, x.part, len(x.b), 1), well(block(n, 3, x.b)))
	return all[s.pick(len(all))]
}

// hears sends a message, and counts what comes of it.
func (s *script) hears(p api.Pdu) {
	s.t.Helper()
	before, _, was := s.l.Open()
	a, is := s.hear(p, s.later())
	s.told = append(s.told, a)
	_, _, still := s.l.Open()
	if is && a.Kind == api.PAck && p.Kind == api.PDone && was && before == p.Session {
		s.seen[sealed]++
	}
	if was && !still && (p.Kind == api.PAsk || p.Kind == api.PBlock) {
		s.seen[lateHeard]++
	}
	if s.d.Down() {
		s.seen[wentDown]++
		s.nothing(s.message(), s.later())
		s.power(uint64(s.pick(4)))
		s.tickNow = s.pick(60) - 30
	}
}

// whole lets a session be opened, and load all of it, in some order; it may be heard twice, and be broken off.
func (s *script) whole() {
	s.t.Helper()
	n := 1 + s.pick(3)
	if s.pick(2) == 0 {
		s.plan(n)
	}
	x := s.plans[n]
	s.hears(open(n, x.part, len(x.b)))
	long := blocksOf(len(x.b))
	by, from := []int{1, 1, long - 1}[s.pick(3)], s.pick(long)
	for at := range long {
		s.hears(block(n, (from+at*by)%long, x.b))
		if s.pick(6) == 0 {
			s.hears(block(n, s.pick(long), x.b))
		}
	}
	for range 1 + s.pick(2) {
		s.hears(done(n))
	}
}

// pastLoader does something to the stores that no loader asked for.
func (s *script) pastLoader() {
	s.t.Helper()
	part, n := s.pick(parts+1), s.number()
	l := []func(x *store.Store) api.Errno{
		func(x *store.Store) api.Errno { _, e := x.Boot(part); return e },
		func(x *store.Store) api.Errno { _, e := x.Boot(part); return e },
		func(x *store.Store) api.Errno { return x.Confirm(part) },
		func(x *store.Store) api.Errno { return x.Confirm(part) },
		func(x *store.Store) api.Errno { return x.Drop(part, n) },
		func(x *store.Store) api.Errno { return x.Seal(part, n) },
		func(x *store.Store) api.Errno { return x.Begin(part, n, 50) },
		func(x *store.Store) api.Errno { return x.Load(part, n, 0, make([]byte, blockSize)) },
	}
	do := l[s.pick(len(l))]
	was := s.s.Record(part)
	e, f := do(s.s), do(s.m.s)
	if e != f {
		s.wrong("past the loader", e, f)
	}
	s.tell("past the loader: " + e.Error())
	if r := s.s.Record(part); was.Active != was.Confirmed && r.Active == r.Confirmed {
		s.seen[trialOver]++
	}
	if s.d.Down() {
		s.seen[wentDown]++
		s.nothing(s.message(), s.later())
		s.power(uint64(s.pick(4)))
	}
	s.judge()
}

// step does one thing.
func (s *script) step() {
	s.t.Helper()
	switch what := s.pick(40); {
	case what < 24:
		s.hears(s.message())
	case what < 28:
		s.whole()
	case what < 32:
		s.tickNow += s.pick(22)
		if s.tick(s.later()) {
			s.seen[timedOut]++
		}
	case what < 37:
		s.pastLoader()
	case what < 38:
		s.fuse(s.pick(12))
	case what < 39:
		s.plan(1 + s.pick(3))
	default:
		s.anew()
		s.seen[madeAnew]++
	}
}

// Long scripts at random, on disks whose power fails, too: all is as the chapter's words have it. They reach what is to be reached.
func TestScriptsAtRandom(t *testing.T) {
	var seen [counts]int
	for seed := range uint64(60) {
		r := rand.New(rand.NewPCG(seed, 1))
		s := newScript(t, r.IntN)
		for range 400 {
			s.step()
		}
		for n := range seen {
			seen[n] += s.seen[n]
		}
	}
	if slices.Min(seen[:]) < 50 {
		t.Errorf("reached: %v", seen)
	}
}

// Short ones, many of them.
func TestShortScriptsAtRandom(t *testing.T) {
	for seed := range uint64(800) {
		r := rand.New(rand.NewPCG(seed, 2))
		s := newScript(t, r.IntN)
		for range 12 {
			s.step()
		}
	}
}

// alphabet are calls of which short scripts are made: of two sessions, in two partitions.
func alphabet(bs []byte) []func(b *bench, tick int) int {
	hear := func(p api.Pdu) func(b *bench, tick int) int {
		return func(b *bench, tick int) int { b.hear(p, tick); return tick }
	}
	after := func(gap int) func(b *bench, tick int) int {
		return func(b *bench, tick int) int { b.tick(tick + gap); return tick + gap }
	}
	over := func(b *bench, tick int) int { // the trial is, if there is one, and the session's stage is there
		for range trial + 1 {
			b.s.Boot(1)
			b.m.s.Boot(1)
		}
		b.judge()
		return tick
	}
	return []func(b *bench, tick int) int{
		hear(open(5, 1, len(bs))), hear(open(5, 2, len(bs))), hear(open(6, 1, len(bs))),
		hear(block(5, 0, bs)), hear(block(6, 0, bs)), hear(done(5)), hear(done(6)), hear(abort(5)), hear(abort(6)), hear(ask(5)),
		after(10), after(20), over,
	}
}

// Each script of four calls, behind one that loaded all but the first block.
func TestEachScript(t *testing.T) {
	bs := bytesOf(t, coded(1, 30, 20))
	l := alphabet(bs)
	b := begin(t)
	b.loads(5, 1, bs, 0, 0)
	laid := sectorsOf(t, b.d)
	for way := range len(l) * len(l) * len(l) * len(l) {
		b := beginOf(t, opened(t, laid), opened(t, laid))
		tick := 0
		for range 4 {
			tick = l[way%len(l)](b, tick)
			way /= len(l)
		}
	}
}

// FuzzLoader: whatever the calls are, they answer what the chapter's words say.
func FuzzLoader(f *testing.F) {
	f.Add([]byte{1, 2, 3, 4, 5, 6, 7, 8, 9, 10, 11, 12, 13, 14, 15, 16})
	for seed := range uint64(4) {
		r := rand.New(rand.NewPCG(seed, 9))
		b := make([]byte, 600)
		for i := range b {
			b[i] = byte(r.Uint32())
		}
		f.Add(b)
	}
	f.Fuzz(func(t *testing.T, b []byte) {
		at := 0
		pick := func(n int) int { // of what is at its end there is nothing but 0
			if at >= len(b) {
				return 0
			}
			at++
			return int(b[at-1]) % n
		}
		s := newScript(t, pick)
		for steps := 0; at < len(b) && steps < 300; steps++ {
			s.step()
		}
	})
}
