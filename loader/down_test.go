package loader_test

import (
	"slices"
	"strconv"
	"testing"

	"longeron/api"
	"longeron/image"
	"longeron/store"
)

// states are what a loader may have been through when the disk goes down.
func states(t *testing.T) []func() *bench {
	t.Helper()
	bs := bytesOf(t, coded(1, 30, 20))
	broken := func() *bench { // off
		b := begin(t)
		b.loads(5, 1, bs, 0, 3)
		b.ticks(40, true)
		return b
	}
	return []func() *bench{
		func() *bench { return begin(t) },
		func() *bench { b := begin(t); b.well(open(5, 1, len(bs)), 40); return b },
		func() *bench { b := begin(t); b.loads(5, 1, bs, 33, 3); return b },
		func() *bench { b := begin(t); b.loads(5, 1, bs, 33); return b },
		func() *bench { b := begin(t); b.well(open(6, 1, 50), 40); return b },
		func() *bench { b := begin(t); b.well(open(6, 2, 50), 40); return b },
		func() *bench { b := begin(t); b.seals(5, 1, bs, 0); return b },
		func() *bench { b := begin(t); b.loads(5, 1, bs, 0); b.well(abort(5), 20); return b },
		broken,
	}
}

// asked are messages of session 5 of each kind that asks, and some that are refused.
func asked(t *testing.T) []api.Pdu {
	t.Helper()
	bs := bytesOf(t, coded(1, 30, 20))
	return []api.Pdu{
		open(5, 1, len(bs)), open(5, 2, len(bs)), open(5, 1, 0), open(5, 255, 50), open(0, 0, 0),
		block(5, 3, bs), block(5, 0, bs), block(5, 77, bs), done(5), abort(5), ask(5), done(9), abort(9), ask(9), done(0), abort(0),
	}
}

// The disk is down ahead of each kind, whatever is open: nothing is answered, not what needs no disk either.
func TestDownAhead(t *testing.T) {
	for _, make := range states(t) {
		for _, p := range asked(t) {
			b := make()
			ahead := sectorsOf(t, b.d)
			b.take()
			for n := range 3 {
				b.nothing(p, 45+n)
			}
			b.tick(50)
			b.tick(70)
			b.nothing(p, 70)
			b.power(0)
			if !slices.EqualFunc(sectorsOf(t, b.d), ahead, slices.Equal) {
				t.Errorf("%s: the disk is another", shown(p))
			}
		}
	}
}

// Each message of each kind, the disk down behind each write and each flush that it does: nothing is answered then; if it lasts just as long as it is needed, what is answered where there is no fuse. What is behind it isn't answered either. With a loader that is made anew all goes on.
func TestDownWithin(t *testing.T) {
	downs := map[int]int{} // by kinds
	for _, make := range states(t) {
		for _, p := range asked(t) {
			for keep := range uint64(2) {
				for fuse := 0; ; fuse++ {
					b := make()
					b.fuse(fuse)
					a, is := b.hear(p, 45)
					if !b.d.Down() {
						if !is {
							b.wrong("the answer", shown(a), "one")
						}
						break
					}
					downs[p.Kind]++
					if is {
						b.wrong("the answer", shown(a), "none")
					}
					for _, p := range asked(t) {
						b.nothing(p, 46)
					}
					b.power(keep)
					b.noneOpen()
					b.finishes()
				}
			}
		}
	}
	// In POpen, PDone and PAbort one write and one flush, in PBlock two of each; PAsk writes nothing.
	for kind, least := range map[int]int{api.POpen: 4, api.PBlock: 8, api.PDone: 4, api.PAbort: 4} {
		if downs[kind] < least {
			t.Errorf("kind %d: went down %d times", kind, downs[kind])
		}
	}
	if downs[api.PAsk] != 0 {
		t.Error("PAsk writes")
	}
}

// finishes loads, with a new loader, what session 5 was to load, unless that was sealed, though nobody was told so; and lets it run.
func (b *bench) finishes() {
	b.t.Helper()
	i := coded(1, 30, 20)
	bs := bytesOf(b.t, i)
	if a, is := b.hear(open(5, 1, len(bs)), 0); !is {
		b.wrong("the answer", "nothing", "one")
	} else if a.Kind == api.PAck {
		for no := range blocksOf(len(bs)) {
			b.well(block(5, no, bs), 1)
		}
		b.well(done(5), 2)
	} else if a.Code != int(api.ErrTrial) {
		b.wrong("the answer", shown(a), "a trial")
	}
	if got, e := b.s.Boot(1); e != api.OK || !image.Same(got, i) {
		b.wrong("Boot", []any{got, e}, i)
	}
}

// Behind a fuse that is at its end, but hasn't taken the disk down yet, what writes nothing is answered.
func TestFuseAtEnd(t *testing.T) {
	b := begin(t)
	bs := bytesOf(t, coded(1, 30, 20))
	tick := b.loads(5, 1, bs, 1, 4)
	b.fuse(0)
	b.answers(ask(5), tick, status(5, 1, len(bs), 15))
	b.well(open(5, 1, len(bs)), tick)
	b.refuses(open(5, 1, 7), tick, api.ErrArg)
	b.refuses(open(6, 1, 7), tick, api.ErrSession)
	b.well(block(5, 0, bs), tick)
	b.refuses(block(5, 5, bs), tick, api.ErrRange)
	b.refuses(done(5), tick, api.ErrMissing)
	b.refuses(abort(6), tick, api.ErrSession)
	b.ticks(tick+20, true)
	b.well(open(5, 1, len(bs)), tick+20) // gone on with
	if b.d.Down() {
		t.Fatal("down")
	}
	b.nothing(block(5, 4, bs), tick+20)
	b.nothing(ask(5), tick+20)
}

// What was told to be sealed is what runs, whatever the disk keeps, wherever the power fails behind it; what was told to be loaded is there.
func TestToldStays(t *testing.T) {
	b := begin(t)
	i := coded(2, 30, 20)
	bs := bytesOf(t, i)
	b.well(open(5, 2, len(bs)), 0)
	have := 0
	for no := range blocksOf(len(bs)) {
		b.well(block(5, no, bs), 1)
		have += 1 << no
		b.power(0)
		b.staged(2, api.Stage{Session: 5, Size: len(bs), Have: have})
		b.well(open(5, 2, len(bs)), 0)
		b.answers(ask(5), 0, status(5, 2, len(bs), have))
	}
	b.well(done(5), 1)
	b.power(0)
	if got, e := b.s.Image(2); e != api.OK || !image.Same(got, i) {
		t.Errorf("Image: %v, %v", got, e)
	}
	b.well(open(6, 1, 50), 0)
	b.power(0)
	b.staged(1, api.Stage{Session: 6, Size: 50})
	b.well(open(6, 1, 50), 0)
	b.well(abort(6), 0)
	b.power(0)
	b.staged(1, api.Stage{})
}

// An image is loaded while the power fails again and again, with messages that come twice, and in any order: it is what runs in the end.
func TestLoadedAtLast(t *testing.T) {
	i := coded(1, 30, 20)
	bs := bytesOf(t, i)
	for fuse := range 24 {
		for keep := range uint64(4) {
			b := begin(t)
			sealed := false
			for round := 0; !sealed; round++ {
				if round > 40 {
					t.Fatalf("a fuse of %d: not loaded at last", fuse)
				}
				if fuse+round < 30 {
					b.fuse(fuse + round)
				}
				sealed = b.round(bs, round)
				if b.d.Down() {
					b.power(keep)
				} else if !sealed {
					b.anew()
				}
				r := b.s.Record(1)
				sealed = sealed || r.Active != r.Confirmed // though nobody was told so
				if got, e := b.s.Image(1); e != api.OK || got.Version != 30 && got.Version != 11 || sealed != (got.Version == 30) {
					t.Fatalf("Image: %v, %v", got, e)
				}
			}
			b.fuse(noFuse)
			b.past("boot", func(s *store.Store) api.Errno { _, e := s.Boot(1); return e }, api.OK)
		}
	}
}

// round sends all messages of a loading once, the blocks in an order that is another one each time, some twice. It tells whether the end was told to be well.
func (b *bench) round(bs []byte, round int) bool {
	b.t.Helper()
	n := blocksOf(len(bs))
	b.hear(open(5, 1, len(bs)), round)
	for at := range n {
		no := (at*(1+round%(n-1)) + round) % n
		b.hear(block(5, no, bs), round)
		b.hear(block(5, n-1-at, bs), round)
		if at == round%n {
			b.hear(open(5, 1, len(bs)), round)
		}
	}
	b.hear(ask(5), round)
	a, is := b.hear(done(5), round)
	b.tell("round " + strconv.Itoa(round))
	return is && a.Kind == api.PAck
}
