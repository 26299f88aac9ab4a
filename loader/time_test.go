package loader_test

import (
	"math"
	"testing"

	"longeron/api"
	"longeron/store"
)

// bases are ticks from which a session lasts.
var bases = []int{math.MinInt, -1 << 32, -1000, -21, -20, -19, -1, 0, 1, 1000, 1 << 32, math.MaxInt - 1000}

// times says whether session 5, of which something was heard last at that tick, times out 20 ticks behind it, by each call that comes to see it. The bench is made, and brought to that tick, anew each time.
func times(t *testing.T, heard int, make func() *bench) {
	t.Helper()
	for _, gap := range []int{1, 10, 18, 19, 20, 21, 22} {
		late := gap >= 20

		b := make()
		b.ticks(heard+gap, late)
		if late {
			b.noneOpen()
		} else {
			b.isOpen(5, 1)
		}
		b.ticks(heard+gap, false) // it is told once
		b.ticks(heard+gap+1, gap == 19)
		b.ticks(heard+30, gap < 19)
		b.ticks(heard+60, false)
		b.noneOpen()

		for _, p := range []api.Pdu{block(5, 99, nil), done(5), ask(5), abort(5)} {
			b := make()
			a, is := b.hear(p, heard+gap)
			if !is || late != (a.Code == int(api.ErrState)) {
				b.wrong("the answer", shown(a), "another one")
			}
			if late {
				b.noneOpen()
				b.ticks(heard+gap, false)
				b.ticks(heard+100, false)
			}
		}
		for _, p := range []api.Pdu{open(6, 0, 50), block(6, 0, nil), done(6), ask(6), abort(6)} {
			b := make()
			a, is := b.hear(p, heard+gap)
			if !is || late == (a.Code == int(api.ErrSession)) {
				b.wrong("the answer", shown(a), "another one")
			}
		}
		b = make()
		st, _ := b.s.Stage(1)
		b.well(open(5, 1, 69), heard+gap)
		b.staged(1, st) // what is loaded stays, either way
		b.ticks(heard+gap+19, false)
		b.ticks(heard+gap+20, true)
	}
}

// A session times out 20 ticks behind the last one at which something of it was heard: a message of each kind, well or not.
func TestTimeout(t *testing.T) {
	for _, base := range []int{math.MinInt, -20, 0, math.MaxInt - 1000} {
		for _, c := range []struct {
			p    api.Pdu
			want api.Pdu
		}{
			{open(5, 1, 69), well(open(5, 1, 69))},
			{open(5, 1, 68), refused(open(5, 1, 68), api.ErrArg)},
			{open(5, 0, 69), refused(open(5, 0, 69), api.ErrArg)},
			{block(5, 2, nil), well(block(5, 2, nil))},
			{block(5, 0, nil), well(block(5, 0, nil))}, // it is there
			{block(5, 9, nil), refused(block(5, 9, nil), api.ErrRange)},
			{done(5), refused(done(5), api.ErrMissing)},
			{ask(5), status(5, 1, 69, 1)},
		} {
			times(t, base+13, func() *bench {
				b := begin(t)
				b.well(open(5, 1, 69), base)
				b.well(block(5, 0, nil), base)
				b.ticks(base+12, false)
				b.answers(c.p, base+13, c.want)
				return b
			})
		}
	}
}

// Nothing was heard but POpen.
func TestTimeoutOfOpen(t *testing.T) {
	for _, base := range bases {
		times(t, base, func() *bench {
			b := begin(t)
			b.well(open(5, 1, 69), base)
			b.isOpen(5, 1)
			return b
		})
		times(t, base+50, func() *bench { // gone on with
			b := begin(t)
			b.well(open(5, 1, 69), base)
			b.well(block(5, 1, nil), base)
			b.ticks(base+50, true)
			b.well(open(5, 1, 69), base+50)
			return b
		})
	}
}

// What is of another session, asks for nothing, or is no message, doesn't put it off.
func TestNotHeard(t *testing.T) {
	l := []api.Pdu{open(6, 1, 69), open(6, 0, 50), block(6, 0, nil), done(6), abort(6), ask(6), done(0), abort(0), open(0, 1, 69), ask(5 + 256)}
	l = append(l, well(open(5, 1, 69)), well(block(5, 0, nil)), refused(done(5), api.ErrState), status(5, 1, 69, 0))
	for _, p := range wrongs() {
		if p.Session == 5 {
			l = append(l, p)
		}
	}
	for _, p := range l {
		for _, at := range []int{100, 101, 118, 119} {
			b := begin(t)
			b.well(open(5, 1, 69), 100)
			a, is := b.hear(p, at)
			if is != (p.Session != 5) || is && a.Code != int(api.ErrSession) {
				b.wrong("the answer", shown(a), "that it is of another session, or nothing")
			}
			b.ticks(119, false)
			b.isOpen(5, 1)
			b.ticks(120, true)
			b.noneOpen()
		}
		b := begin(t)
		b.well(open(5, 1, 69), 100)
		b.hear(p, 119)
		b.refuses(ask(5), 120, api.ErrState)
	}
}

// A message that asks for nothing, or is none, changes nothing, however late it comes: it is left to Tick to tell.
func TestNothingLate(t *testing.T) {
	for _, p := range append(wrongs(), well(done(5)), refused(done(5), api.ErrState), status(5, 1, 69, 0)) {
		b := begin(t)
		b.well(open(5, 1, 69), 100)
		b.nothing(p, 300)
		b.isOpen(5, 1)
		b.ticks(119, false)
		b.ticks(120, true)
		b.nothing(p, 400)
		b.well(open(5, 1, 69), 130)
		b.ticks(149, false)
		b.ticks(150, true)
	}
}

// A session lasts for as long as something of it is heard each 19 ticks.
func TestLasts(t *testing.T) {
	b := begin(t)
	b.well(open(5, 1, 69), 0)
	tick := 0
	for n := range 60 {
		tick += 19
		b.ticks(tick, false)
		if n%2 == 0 {
			b.answers(ask(5), tick, status(5, 1, 69, 0))
		} else {
			b.refuses(done(5), tick, api.ErrMissing)
		}
	}
	b.ticks(tick+19, false)
	b.ticks(tick+20, true)
}

// One that isn't open any more doesn't time out, and takes nothing from the one behind it.
func TestClosed(t *testing.T) {
	bs := bytesOf(t, coded(1, 30, 20))
	for _, last := range []api.Pdu{abort(5), done(5)} {
		b := begin(t)
		tick := b.loads(5, 1, bs, 0)
		b.well(last, tick)
		for gap := range 25 {
			b.ticks(tick+gap, false)
		}
		b.well(last, tick+30)
		b.ticks(tick+49, false)
		b.ticks(tick+50, false)

		b = begin(t)
		tick = b.loads(5, 1, bs, 0)
		b.well(last, tick)
		b.well(open(6, 0, 50), tick+10)
		for gap := 11; gap < 30; gap++ {
			b.ticks(tick+gap, false)
		}
		b.ticks(tick+30, true)
		b.noneOpen()
	}
	b := begin(t) // nor one that wasn't given up well
	b.well(open(5, 1, 50), 0)
	b.past("begin another", func(s *store.Store) api.Errno { return s.Begin(1, 6, 40) }, api.OK)
	b.refuses(abort(5), 5, api.ErrSession)
	b.ticks(24, false)
	b.ticks(25, false)
}

// One that couldn't be opened, or that was never open, doesn't time out.
func TestNeverOpen(t *testing.T) {
	b := begin(t)
	for _, base := range bases {
		b.ticks(base, false)
		b.refuses(open(5, 1, 0), base, api.ErrRange)
		b.refuses(ask(5), base, api.ErrState)
		b.ticks(base+20, false)
		b.ticks(base+21, false)
		b.noneOpen()
	}
	b.ticks(math.MaxInt, false)
	b.ticks(math.MinInt, false)
}

// A timeout that no Tick came to see: what is heard finds none open, and may open another one, or the same.
func TestTimeoutUnseen(t *testing.T) {
	for gap := 20; gap < 23; gap++ {
		b := begin(t)
		b.well(open(5, 1, 69), 0)
		b.well(block(5, 2, nil), 0)
		b.refuses(block(5, 3, nil), gap, api.ErrState)
		b.noneOpen()
		b.ticks(gap, false)
		b.staged(1, api.Stage{Session: 5, Size: 69, Have: 4})
		b.well(open(6, 0, 50), gap)
		b.ticks(gap+19, false)
		b.well(open(5, 1, 69), gap+20)
		b.isOpen(5, 1)
		b.answers(ask(5), gap+20, status(5, 1, 69, 4))
		b.well(open(5, 1, 69), gap+40) // it timed out, and is opened
		b.well(open(5, 1, 40), gap+60) // it did so again, and so may be of another size
		b.answers(ask(5), gap+60, status(5, 1, 40, 0))
	}
}

// A tick that is below an earlier one, of Hear or of Tick, counts as that; and one that is the same as it.
func TestTicksFall(t *testing.T) {
	for _, low := range []int{math.MinInt, -1, 0, 49, 50} {
		b := begin(t) // Tick, then Hear
		b.ticks(50, false)
		b.well(open(5, 1, 69), low)
		b.ticks(69, false)
		b.isOpen(5, 1)
		b.ticks(70, true)

		b = begin(t) // Hear, then Hear
		b.refuses(ask(9), 50, api.ErrState)
		b.well(open(5, 1, 69), low)
		b.refuses(ask(9), 69, api.ErrSession)
		b.refuses(ask(5), 70, api.ErrState)

		b = begin(t) // of another session
		b.well(open(5, 1, 69), 35)
		b.refuses(ask(9), 50, api.ErrSession)
		b.answers(ask(5), low, status(5, 1, 69, 0))
		b.ticks(69, false)
		b.ticks(70, true)

		b = begin(t) // Hear, then Tick
		b.well(open(5, 1, 69), 50)
		b.ticks(low, false)
		b.ticks(69, false)
		b.ticks(low, false)
		b.ticks(70, true)
		b.ticks(low, false)

		b = begin(t) // a lower one puts it off as that does
		b.well(open(5, 1, 69), 40)
		b.ticks(50, false)
		b.well(block(5, 1, nil), low)
		b.ticks(60, false)
		b.ticks(69, false)
		b.ticks(70, true)

		b = begin(t) // the latest one is behind its time
		b.well(open(5, 1, 69), 20)
		b.ticks(50, true)
		b.refuses(ask(5), low, api.ErrState)
		b.well(open(5, 1, 69), low)
		b.isOpen(5, 1)
	}
}

// The first tick may be any.
func TestFirstTick(t *testing.T) {
	for _, base := range bases {
		b := begin(t)
		b.ticks(base, false)
		b.well(open(5, 1, 69), base)
		b.ticks(base+19, false)
		b.ticks(base+20, true)
	}
}

// Up to the greatest tick: a session that could time out only behind it never does.
func TestLastTicks(t *testing.T) {
	const last = math.MaxInt
	for ahead := range 40 {
		for way := range 3 {
			b := begin(t)
			switch way {
			case 0:
				b.well(open(5, 1, 69), last-ahead)
			case 1:
				b.well(open(5, 1, 69), last-ahead-13)
				b.answers(ask(5), last-ahead, status(5, 1, 69, 0))
			case 2:
				b.well(open(5, 1, 69), last-ahead)
				b.refuses(ask(6), last-ahead, api.ErrSession)
			}
			b.ticks(last-ahead, false)
			b.isOpen(5, 1)
			b.ticks(last, ahead >= 20)
			b.ticks(last, false)
			if ahead >= 20 {
				b.noneOpen()
				b.well(open(6, 0, 50), last)
				b.ticks(last, false)
				b.isOpen(6, 0)
				continue
			}
			b.answers(ask(5), last, status(5, 1, 69, 0))
			b.ticks(math.MinInt, false)
			b.isOpen(5, 1)
			b.well(abort(5), last)
			b.noneOpen()
		}
	}
}
