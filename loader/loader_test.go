package loader_test

import (
	"bytes"
	"math"
	"slices"
	"testing"

	"longeron/api"
	"longeron/image"
	"longeron/loader"
	"longeron/pdu"
	"longeron/store"
)

// P19.1 and P19.2: ordinary.

// The chapter's example.
func TestExample(t *testing.T) {
	s := made(t)
	l := loader.New(s.s)
	b := bytesOf(t, coded(1, 20, 1))
	for _, c := range []struct{ p, want api.Pdu }{
		{api.Pdu{Kind: api.POpen, Session: 1, Part: 1, Size: 50}, api.Pdu{Kind: api.PAck, Session: 1, What: api.POpen}},
		{api.Pdu{Kind: api.PBlock, Session: 1, No: 0, Data: b[:16]}, api.Pdu{Kind: api.PAck, Session: 1, What: api.PBlock}},
		{api.Pdu{Kind: api.PAsk, Session: 1}, api.Pdu{Kind: api.PStatus, Session: 1, Part: 1, Size: 50, Have: 1}},
	} {
		if got, is := l.Hear(c.p, 0); !is || !pdu.Same(got, c.want) {
			t.Errorf("%s: %s, %v; want %s", shown(c.p), shown(got), is, shown(c.want))
		}
	}
}

// An image is loaded in rising order, asked for between, and sealed; it is what runs then. It is loaded into each partition.
func TestRising(t *testing.T) {
	for part := range parts {
		b := begin(t)
		i := coded(part, 30, 20)
		bs := bytesOf(t, i)
		b.noneOpen()
		b.well(open(7, part, len(bs)), 1)
		b.isOpen(7, part)
		have := 0
		b.answers(ask(7), 1, status(7, part, len(bs), have))
		for no := range blocksOf(len(bs)) {
			b.refuses(done(7), 2+no, api.ErrMissing)
			b.well(block(7, no, bs), 2+no)
			have += 1 << no
			b.answers(ask(7), 2+no, status(7, part, len(bs), have))
		}
		b.isOpen(7, part)
		b.well(done(7), 15)
		b.noneOpen()
		b.refuses(ask(7), 15, api.ErrState)
		if r := b.s.Record(part); r.Active == r.Confirmed || r.Left != trial {
			t.Errorf("sealed: %v", r)
		}
		if got, e := b.s.Boot(part); e != api.OK || !image.Same(got, i) {
			t.Errorf("Boot: %v, %v", got, e)
		}
	}
}

// P19.2: blocks in each order, each once, or some twice, or all of them over again, with questions between, lead to the same disk, and each block is answered as in any other order.
func TestEachOrder(t *testing.T) {
	bs := bytesOf(t, coded(2, 30, 18)) // five blocks
	n := blocksOf(len(bs))
	var want [][]byte
	orders(n, func(order []int) {
		for way := range 4 {
			s := made(t)
			l := loader.New(s.s)
			hear := func(p, want api.Pdu) {
				t.Helper()
				if got, is := l.Hear(p, 1); !is || !pdu.Same(got, want) {
					t.Fatalf("%v, way %d: %s: %s, %v; want %s", order, way, shown(p), shown(got), is, shown(want))
				}
			}
			hear(open(9, 2, len(bs)), well(open(9, 2, len(bs))))
			have := 0
			for at, no := range order {
				p := block(9, no, bs)
				hear(p, well(p))
				have += 1 << no
				if way == 1 && no%2 == at%2 {
					hear(p, well(p))
				}
				if way == 2 {
					for _, no := range order[:at] {
						hear(block(9, no, bs), well(block(9, no, bs)))
					}
				}
				if way == 3 {
					hear(open(9, 2, len(bs)), well(open(9, 2, len(bs))))
					hear(ask(9), status(9, 2, len(bs), have))
				}
			}
			hear(done(9), well(done(9)))
			got := sectorsOf(t, s.d)
			if want == nil {
				want = got
			}
			if !slices.EqualFunc(got, want, bytes.Equal) {
				t.Fatalf("%v, way %d: another disk", order, way)
			}
		}
	})
}

// One is given up, and another one loaded in its place; the one that was given up isn't there any more.
func TestGivenUp(t *testing.T) {
	b := begin(t)
	bs := bytesOf(t, coded(1, 30, 20))
	tick := b.loads(5, 1, bs, 0)
	b.staged(1, api.Stage{Session: 5, Size: len(bs), Have: 1<<blocksOf(len(bs)) - 1})
	b.well(abort(5), tick)
	b.noneOpen()
	b.staged(1, api.Stage{})
	b.refuses(done(5), tick, api.ErrState)
	b.well(open(5, 1, len(bs)), tick)
	b.answers(ask(5), tick, status(5, 1, len(bs), 0))
	b.well(abort(5), tick)
	b.seals(6, 1, bs, tick)
	if i, e := b.s.Boot(1); e != api.OK || i.Version != 30 {
		t.Errorf("Boot: %v, %v", i, e)
	}
}

// Images one behind the other, into all partitions, each confirmed.
func TestRounds(t *testing.T) {
	b := begin(t)
	tick := 0
	for round := range 12 {
		part := round % parts
		tick = b.seals(100+round, part, bytesOf(t, coded(part, 50+round, 1+7*round)), tick)
		for _, s := range []*store.Store{b.s, b.m.s} {
			if i, e := s.Boot(part); e != api.OK || i.Version != 50+round {
				t.Fatalf("Boot: %v, %v", i, e)
			}
			if e := s.Confirm(part); e != api.OK {
				t.Fatalf("Confirm: %v", e)
			}
		}
		b.judge()
		b.well(done(100+round), tick)
	}
}

// P19.1: each kind, with each session open.

// What is answered while no session is open, that one, or another one: in the same partition, or in another one.
func TestEachKind(t *testing.T) {
	bs := bytesOf(t, coded(1, 30, 20))
	all := []api.Pdu{open(5, 1, len(bs)), block(5, 0, bs), done(5), abort(5), ask(5)}
	has := api.Stage{Session: 5, Size: len(bs), Have: 2}
	for n, p := range all {
		// None is open.
		b := begin(t)
		b.tick(3)
		want := refused(p, api.ErrState)
		if p.Kind == api.POpen {
			want = well(p)
		}
		b.answers(p, 4, want)
		if p.Kind != api.POpen {
			b.noneOpen()
			b.staged(1, api.Stage{})
		} else {
			b.isOpen(5, 1)
			b.staged(1, api.Stage{Session: 5, Size: len(bs)})
		}

		// None is open, though that one's stage is there.
		b = begin(t)
		b.well(open(5, 1, len(bs)), 3)
		b.well(block(5, 1, bs), 3)
		b.ticks(23, true)
		b.answers(p, 24, want)
		b.staged(1, has)

		// That one is open.
		b = begin(t)
		b.well(open(5, 1, len(bs)), 3)
		b.well(block(5, 1, bs), 3)
		b.answers(p, 4, []api.Pdu{well(p), well(p), refused(p, api.ErrMissing), well(p), status(5, 1, len(bs), 2)}[n])
		if p.Kind == api.PAbort {
			b.noneOpen()
			b.staged(1, api.Stage{})
		} else {
			b.isOpen(5, 1)
		}

		// Another one is open, in that partition or not.
		for part := range parts {
			for _, other := range []int{4, 6, 5 + 256, 65535} {
				b = begin(t)
				b.well(open(5, 1, len(bs)), 3)
				b.well(block(5, 1, bs), 3)
				b.ticks(23, true)
				b.well(open(other, part, 40), 24)
				b.refuses(p, 24, api.ErrSession)
				b.isOpen(other, part)
				b.staged(part, api.Stage{Session: other, Size: 40})
				if part != 1 {
					b.staged(1, has)
				}
			}
		}
	}
}

// Messages of kinds that ask for nothing, and what is no message: nothing is answered, and nothing is changed, be their session open or not.
func TestOtherKinds(t *testing.T) {
	bs := bytesOf(t, coded(1, 30, 20))
	l := []api.Pdu{
		well(open(5, 1, len(bs))), well(block(5, 3, bs)), well(abort(5)), refused(block(5, 2, bs), api.ErrRange), refused(done(5), api.ErrState),
		status(5, 1, len(bs), 0), status(5, 1, len(bs), 31), status(6, 0, 1, 1),
	}
	l = append(l, wrongs()...)
	for _, p := range l {
		b := begin(t)
		b.nothing(p, 1)
		b.noneOpen()
		b.well(open(5, 1, len(bs)), 2)
		b.well(block(5, 1, bs), 2)
		b.nothing(p, 3)
		b.isOpen(5, 1)
		b.answers(ask(5), 3, status(5, 1, len(bs), 2))
		b.well(abort(5), 4)
		b.nothing(p, 5)
		b.noneOpen()
	}
}

// wrongs are no messages, each in one way.
func wrongs() []api.Pdu {
	data := make([]byte, blockSize)
	l := []api.Pdu{{}, {Session: 5}, {Kind: -1, Session: 5}, {Kind: 9, Session: 5}, {Kind: 256 + api.PDone, Session: 5}, {Kind: math.MinInt}, {Kind: math.MaxInt}}
	for _, n := range []int{math.MinInt, -65536, -5, -1, 65536, 65536 + 5, 1<<32 + 5, math.MaxInt} {
		l = append(l, open(n, 1, 50), open(5, n, 50), open(5, 1, n), done(n), abort(n), ask(n))
		l = append(l, api.Pdu{Kind: api.PBlock, Session: n, Data: data}, api.Pdu{Kind: api.PBlock, Session: 5, No: n, Data: data})
	}
	l = append(l, open(5, 256+1, 50), api.Pdu{Kind: api.PBlock, Session: 5, No: 256, Data: data})
	for _, long := range []int{0, 1, 15, 17, 32} {
		l = append(l, api.Pdu{Kind: api.PBlock, Session: 5, Data: make([]byte, long)})
	}
	for _, n := range []int{-1, 1, 5} {
		l = append(l, api.Pdu{Kind: api.PDone, Session: 5, Part: n}, api.Pdu{Kind: api.PAbort, Session: 5, No: n}, api.Pdu{Kind: api.PAsk, Session: 5, Size: n})
		l = append(l, api.Pdu{Kind: api.PDone, Session: 5, Have: n}, api.Pdu{Kind: api.PAbort, Session: 5, What: n}, api.Pdu{Kind: api.PAsk, Session: 5, Code: n})
		l = append(l, api.Pdu{Kind: api.POpen, Session: 5, Part: 1, Size: 50, No: n}, api.Pdu{Kind: api.PBlock, Session: 5, Part: n, Data: data})
	}
	return append(l, api.Pdu{Kind: api.PDone, Session: 5, Data: data}, api.Pdu{Kind: api.POpen, Session: 5, Part: 1, Size: 50, Data: []byte{0}})
}

// POpen.

// The session that is open, asked for with the same partition and size, or with another one of either.
func TestOpenAgain(t *testing.T) {
	b := begin(t)
	bs := bytesOf(t, coded(1, 30, 20))
	b.well(open(5, 1, len(bs)), 1)
	b.well(block(5, 2, bs), 1)
	for range 2 {
		b.well(open(5, 1, len(bs)), 2)
		for _, p := range []api.Pdu{
			open(5, 0, len(bs)), open(5, 2, len(bs)), open(5, 3, len(bs)), open(5, 255, len(bs)),
			open(5, 1, len(bs)-1), open(5, 1, len(bs)+1), open(5, 1, 0), open(5, 1, 161), open(5, 1, 65535), open(5, 0, 0), open(5, 2, 65535),
		} {
			b.refuses(p, 2, api.ErrArg)
			b.isOpen(5, 1)
		}
		b.answers(ask(5), 2, status(5, 1, len(bs), 4))
	}
	b.staged(0, api.Stage{})
	b.staged(2, api.Stage{})
}

// None is open: a session goes on if the stage is its, of its size; else it begins anew.
func TestGoesOn(t *testing.T) {
	bs := bytesOf(t, coded(1, 30, 20))
	n := len(bs)
	for _, c := range []struct {
		p    api.Pdu
		have int
	}{
		{open(5, 1, n), 0b1001}, {open(6, 1, n), 0}, {open(5+256, 1, n), 0}, {open(65535, 1, n), 0}, {open(5, 1, n-1), 0}, {open(5, 1, n+1), 0},
		{open(5, 1, 160), 0}, {open(5, 0, n), 0}, {open(5, 2, n), 0}, {open(9, 2, 30), 0b10}, {open(9, 1, 30), 0},
	} {
		b := begin(t)
		b.well(open(9, 2, 30), 0)
		b.well(block(9, 1, bs), 0)
		b.ticks(20, true)
		b.well(open(5, 1, n), 21)
		b.well(block(5, 0, bs), 21)
		b.well(block(5, 3, bs), 21)
		b.ticks(41, true)
		b.well(c.p, 42)
		b.isOpen(c.p.Session, c.p.Part)
		b.staged(c.p.Part, api.Stage{Session: c.p.Session, Size: c.p.Size, Have: c.have})
		b.answers(ask(c.p.Session), 42, status(c.p.Session, c.p.Part, c.p.Size, c.have))
		if c.p.Part != 1 { // what another partition has stays
			b.staged(1, api.Stage{Session: 5, Size: n, Have: 0b1001})
		}
		if c.p.Part != 2 {
			b.staged(2, api.Stage{Session: 9, Size: 30, Have: 0b10})
		}
	}
}

// A session that was broken off is gone on with by a loader that is made anew, too, and is loaded to its end.
func TestGoesOnAnew(t *testing.T) {
	b := begin(t)
	bs := bytesOf(t, coded(1, 30, 20))
	b.well(open(5, 1, len(bs)), 1)
	for no := range blocksOf(len(bs)) {
		b.well(block(5, no, bs), 2)
		b.anew()
		b.noneOpen()
		b.refuses(done(5), 0, api.ErrState)
		b.well(open(5, 1, len(bs)), 0)
		b.answers(ask(5), 0, status(5, 1, len(bs), 1<<(no+1)-1))
	}
	b.well(done(5), 3)
}

// A trial goes on in the partition: it isn't opened, though the stage is of that session and size; nor is any other one. In another partition it is.
func TestOpenInTrial(t *testing.T) {
	b := begin(t)
	bs := bytesOf(t, coded(1, 30, 20))
	tick := b.seals(5, 1, bs, 0)
	b.staged(1, api.Stage{Session: 5, Size: len(bs), Have: 1<<blocksOf(len(bs)) - 1})
	for _, p := range []api.Pdu{open(5, 1, len(bs)), open(6, 1, len(bs)), open(5, 1, 30), open(0, 1, 0)} {
		b.refuses(p, tick, api.ErrTrial)
		b.noneOpen()
	}
	b.well(open(5, 2, len(bs)), tick)
	b.isOpen(5, 2)
}

// A trial was confirmed, or rolled back: the spare slot may be loaded again. The one that was rolled back has that session's stage still, and so is gone on with.
func TestOpenBehindTrial(t *testing.T) {
	bs := bytesOf(t, coded(1, 30, 20))
	full := 1<<blocksOf(len(bs)) - 1
	for way := range 2 {
		b := begin(t)
		tick := b.seals(5, 1, bs, 0)
		for range trial + 1 {
			b.past("boot", func(s *store.Store) api.Errno { _, e := s.Boot(1); return e }, api.OK)
			if way == 0 {
				b.past("confirm", func(s *store.Store) api.Errno { return s.Confirm(1) }, api.OK)
				break
			}
		}
		b.well(open(5, 1, len(bs)), tick)
		b.answers(ask(5), tick, status(5, 1, len(bs), []int{0, full}[way]))
		if way == 1 { // and is sealed again
			b.well(done(5), tick)
			if i, e := b.s.Image(1); e != api.OK || i.Version != 30 {
				t.Errorf("Image: %v, %v", i, e)
			}
		}
	}
}

// Each error of the store's Begin: none is open then.
func TestOpenErrors(t *testing.T) {
	for _, p := range []api.Pdu{
		open(5, parts, 50), open(5, parts+1, 50), open(5, 255, 50), open(0, 255, 0), // there is no such partition
		open(5, 1, 0), open(5, 1, 161), open(5, 1, 65535), // there is no such stage
		open(0, 0, 50), open(0, 1, 50), open(0, 1, 0), open(0, 0, 0),
	} {
		b := begin(t)
		b.refuses(p, 1, api.ErrRange)
		b.noneOpen()
		b.refuses(ask(p.Session), 1, api.ErrState)
		b.well(open(5, 1, 50), 2)
		b.ticks(22, true)
		b.refuses(p, 23, api.ErrRange)
		b.noneOpen()
		b.staged(1, api.Stage{Session: 5, Size: 50})
		b.well(open(6, 1, 50), 23) // and another one may be
	}
	for _, size := range []int{1, 16, 17, 159, 160} {
		for _, session := range []int{1, 255, 256, 65535} {
			b := begin(t)
			b.well(open(session, 2, size), 1)
			b.isOpen(session, 2)
			b.staged(2, api.Stage{Session: session, Size: size})
			b.answers(ask(session), 1, status(session, 2, size, 0))
		}
	}
}

// PBlock.

// A block that is there already is well, and isn't loaded again, whatever it has.
func TestBlockTwice(t *testing.T) {
	b := begin(t)
	bs := bytesOf(t, coded(1, 30, 20))
	b.well(open(5, 1, len(bs)), 1)
	b.well(block(5, 1, bs), 1)
	ahead := sectorsOf(t, b.d)
	b.fuse(0) // anything that is written, or flushed, takes the disk down
	b.well(block(5, 1, bs), 2)
	b.well(block(5, 1, make([]byte, 60)), 3)
	if b.d.Down() || !slices.EqualFunc(sectorsOf(t, b.d), ahead, bytes.Equal) {
		t.Error("loaded again")
	}
	b.fuse(noFuse)
	b.answers(ask(5), 4, status(5, 1, len(bs), 2))
}

// The number of each block, well or not, is told.
func TestBlockNumbers(t *testing.T) {
	for _, size := range []int{1, 16, 17, 50, 144, 145, 160} {
		b := begin(t)
		b.well(open(5, 1, size), 1)
		for no := range 256 {
			p := block(5, no, nil)
			want := api.Pdu{Kind: api.PAck, Session: 5, What: api.PBlock, No: no}
			if no >= blocksOf(size) {
				want.Kind, want.Code = api.PNack, 3
			}
			b.answers(p, 1, want)
		}
		b.isOpen(5, 1)
		b.answers(ask(5), 1, status(5, 1, size, 1<<blocksOf(size)-1))
		b.answers(block(6, 77, nil), 1, api.Pdu{Kind: api.PNack, Session: 6, What: api.PBlock, No: 77, Code: 17})
		b.ticks(21, true)
		b.answers(block(6, 78, nil), 21, api.Pdu{Kind: api.PNack, Session: 6, What: api.PBlock, No: 78, Code: 16})
	}
}

// Each other error of the store's Load, which comes of what was done past the loader: the session stays open.
func TestBlockErrors(t *testing.T) {
	bs := bytesOf(t, coded(1, 30, 20))
	for _, c := range []struct {
		what string
		do   func(s *store.Store) api.Errno
		want api.Errno
		have int
	}{
		{"drop", func(s *store.Store) api.Errno { return s.Drop(1, 5) }, api.ErrState, 0},
		{"begin another", func(s *store.Store) api.Errno { return s.Begin(1, 6, 40) }, api.ErrSession, 0},
		{"seal", func(s *store.Store) api.Errno { return s.Seal(1, 5) }, api.ErrTrial, 0b11111},
	} {
		b := begin(t)
		tick := b.loads(5, 1, bs, 1)
		b.past(c.what, c.do, api.OK)
		for no := range 256 {
			b.refuses(block(5, no, bs), tick, c.want)
		}
		b.isOpen(5, 1)
		b.answers(ask(5), tick, status(5, 1, len(bs), c.have))
		b.well(open(5, 1, len(bs)), tick)
		b.refuses(block(6, 0, bs), tick, api.ErrSession)
	}
}

// PDone.

// misloaded are bytes that aren't sealed in partition 1, and why.
func misloaded(t *testing.T) []struct {
	b    []byte
	want api.Errno
} {
	t.Helper()
	type row = struct {
		b    []byte
		want api.Errno
	}
	var l []row
	change := func(want api.Errno, change func(i *api.Image)) {
		i := coded(1, 30, 20)
		change(&i)
		l = append(l, row{bytesOf(t, i), want})
	}
	change(api.ErrPart, func(i *api.Image) { i.Part = 2 })
	change(api.ErrPart, func(i *api.Image) { i.Hard++ })
	change(api.ErrSize, func(i *api.Image) { i.Mem++ })
	change(api.ErrSize, func(i *api.Image) { i.Fuel++ })
	change(api.ErrPort, func(i *api.Image) { i.Sends = 2 })
	change(api.ErrPort, func(i *api.Image) { i.Receives = 1 })
	change(api.ErrOld, func(i *api.Image) { i.Version = 11 })
	change(api.ErrOld, func(i *api.Image) { i.Version = 1 })
	b := bytesOf(t, coded(1, 30, 20))
	turned := bytes.Clone(b)
	turned[14] ^= 1
	return append(l, row{turned, api.ErrDigest}, row{b[:len(b)-1], api.ErrDigest}, row{append(b, 0), api.ErrDigest}, row{b[:35], api.ErrEnd}, row{[]byte{0x4c}, api.ErrEnd})
}

// Each error of what was loaded: the session stays open, and may be given up; it isn't one that was sealed.
func TestDoneErrors(t *testing.T) {
	for _, c := range misloaded(t) {
		b := begin(t)
		tick := b.loads(5, 1, c.b, 1)
		for range 3 {
			b.refuses(done(5), tick, c.want)
			b.isOpen(5, 1)
		}
		if r := b.s.Record(1); r.Active != r.Confirmed {
			t.Errorf("%v: a trial", c.want)
		}
		b.well(abort(5), tick)
		b.refuses(done(5), tick, api.ErrState)
		b.seals(6, 1, bytesOf(t, coded(1, 30, 20)), tick)
	}
}

// Bytes of which both sums are right, but that are none of a right image: the store's errors that come of them.
func TestDoneForms(t *testing.T) {
	for _, c := range []struct {
		change func(b []byte) []byte
		want   api.Errno
	}{
		{func(b []byte) []byte { b[0] = 0x4d; return b }, api.ErrForm},
		{func(b []byte) []byte { return append(b, 1) }, api.ErrForm},
		{func(b []byte) []byte { return b[:len(b)-1] }, api.ErrEnd},
		{func(b []byte) []byte { b[12]++; return b }, api.ErrEnd},
		{func(b []byte) []byte { b[12]--; return b }, api.ErrForm},
		{func(b []byte) []byte { b[3], b[4] = 0, 0; return b }, api.ErrRange},
		{func(b []byte) []byte { b[2] = 4; return b }, api.ErrRange},
		{func(b []byte) []byte { return b }, api.OK},
	} {
		b := begin(t)
		whole := bytesOf(t, coded(1, 30, 20))
		bs := summed(c.change(whole[:len(whole)-36]))
		tick := b.loads(5, 1, bs, 1)
		if c.want == api.OK {
			b.well(done(5), tick)
			b.noneOpen()
			continue
		}
		b.refuses(done(5), tick, c.want)
		b.isOpen(5, 1)
	}
}

// Each block that is missing, and what comes of what was done past the loader.
func TestDoneStates(t *testing.T) {
	bs := bytesOf(t, coded(1, 30, 20))
	for no := range blocksOf(len(bs)) {
		b := begin(t)
		tick := b.loads(5, 1, bs, 1, no)
		b.refuses(done(5), tick, api.ErrMissing)
		b.isOpen(5, 1)
		b.well(block(5, no, bs), tick)
		b.well(done(5), tick)
		b.noneOpen()
	}
	for _, c := range []struct {
		what string
		do   func(s *store.Store) api.Errno
		want api.Errno
	}{
		{"drop", func(s *store.Store) api.Errno { return s.Drop(1, 5) }, api.ErrState},
		{"begin another", func(s *store.Store) api.Errno { return s.Begin(1, 6, 40) }, api.ErrSession},
		{"begin anew", func(s *store.Store) api.Errno { return s.Begin(1, 5, len(bs)) }, api.ErrMissing},
		{"seal", func(s *store.Store) api.Errno { return s.Seal(1, 5) }, api.ErrTrial},
	} {
		b := begin(t)
		tick := b.loads(5, 1, bs, 1)
		b.past(c.what, c.do, api.OK)
		for range 2 {
			b.refuses(done(5), tick, c.want)
			b.isOpen(5, 1)
		}
	}
}

// A session that was sealed is told so again, while none is open, and it isn't sealed again; one that was sealed before it isn't. While another one is open it is another session.
func TestDoneAgain(t *testing.T) {
	b := begin(t)
	tick := b.seals(5, 1, bytesOf(t, coded(1, 30, 20)), 1)
	ahead := sectorsOf(t, b.d)
	b.fuse(0)
	for n := range 3 {
		b.well(done(5), tick+30*n)
		b.noneOpen()
	}
	for _, session := range []int{0, 4, 6, 5 + 256, 65535} {
		b.refuses(done(session), tick+70, api.ErrState)
	}
	b.refuses(abort(5), tick+70, api.ErrState)
	b.refuses(ask(5), tick+70, api.ErrState)
	b.refuses(block(5, 0, nil), tick+70, api.ErrState)
	if b.d.Down() || !slices.EqualFunc(sectorsOf(t, b.d), ahead, bytes.Equal) {
		t.Error("sealed again")
	}
	b.fuse(noFuse)
	tick = b.loads(6, 2, bytesOf(t, coded(2, 30, 20)), tick+70)
	b.refuses(done(5), tick, api.ErrSession)
	b.well(done(6), tick)
	b.well(done(6), tick)
	b.refuses(done(5), tick, api.ErrState)
	b.seals(5, 0, bytesOf(t, coded(0, 30, 20)), tick)
	b.well(done(5), tick+20)
	b.refuses(done(6), tick+20, api.ErrState)
}

// What was sealed is still told behind a session that was broken off, or given up, and behind one that couldn't be opened; by a loader that is made anew it isn't.
func TestDoneStays(t *testing.T) {
	b := begin(t)
	tick := b.seals(5, 1, bytesOf(t, coded(1, 30, 20)), 1)
	b.refuses(open(6, 1, 50), tick, api.ErrTrial)
	b.well(done(5), tick)
	b.well(open(6, 2, 50), tick)
	b.well(abort(6), tick)
	b.well(done(5), tick)
	b.well(open(7, 2, 50), tick)
	b.refuses(done(5), tick, api.ErrSession)
	b.ticks(tick+20, true)
	b.well(done(5), tick+20)
	b.well(open(5, 2, 50), tick+20)
	b.refuses(done(5), tick+20, api.ErrMissing) // it is open, and so is to be sealed
	b.ticks(tick+40, true)
	b.well(done(5), tick+40)
	b.anew()
	b.refuses(done(5), 0, api.ErrState)
}

// PAbort.

// One that was given up is told so again, while none is open, and nothing more is dropped; one that was given up before it isn't.
func TestAbortAgain(t *testing.T) {
	b := begin(t)
	bs := bytesOf(t, coded(1, 30, 20))
	tick := b.loads(5, 1, bs, 1, 2)
	b.well(abort(5), tick)
	b.noneOpen()
	b.staged(1, api.Stage{})
	b.past("begun past the loader", func(s *store.Store) api.Errno { return s.Begin(1, 5, 20) }, api.OK)
	b.fuse(0)
	for n := range 3 {
		b.well(abort(5), tick+30*n)
		b.noneOpen()
	}
	for _, session := range []int{0, 4, 6, 5 + 256, 65535} {
		b.refuses(abort(session), tick+70, api.ErrState)
	}
	b.refuses(done(5), tick+70, api.ErrState)
	if b.d.Down() {
		t.Error("written")
	}
	b.fuse(noFuse)
	b.staged(1, api.Stage{Session: 5, Size: 20})
	b.well(open(6, 2, 50), tick+70)
	b.refuses(abort(5), tick+70, api.ErrSession)
	b.isOpen(6, 2)
	b.well(abort(6), tick+70)
	b.well(abort(6), tick+70)
	b.refuses(abort(5), tick+70, api.ErrState)
	b.well(open(5, 2, 50), tick+70)
	b.well(abort(5), tick+70)
	b.well(abort(5), tick+70)
	b.refuses(abort(6), tick+70, api.ErrState)
}

// Nothing to drop is well; each other error of the store's Drop is told. Either way the session isn't open any more; but if it wasn't well, it isn't one that was given up.
func TestAbortErrors(t *testing.T) {
	bs := bytesOf(t, coded(1, 30, 20))
	for _, c := range []struct {
		what string
		do   func(s *store.Store) api.Errno
		want api.Errno
	}{
		{"drop", func(s *store.Store) api.Errno { return s.Drop(1, 5) }, api.OK},
		{"begin another", func(s *store.Store) api.Errno { return s.Begin(1, 6, 40) }, api.ErrSession},
		{"seal", func(s *store.Store) api.Errno { return s.Seal(1, 5) }, api.ErrTrial},
	} {
		b := begin(t)
		b.well(open(4, 2, 50), 1)
		b.well(abort(4), 1)
		tick := b.loads(5, 1, bs, 1)
		b.past(c.what, c.do, api.OK)
		ahead := sectorsOf(t, b.d)
		if c.want == api.OK {
			b.well(abort(5), tick)
			b.noneOpen()
			b.well(abort(5), tick)
			b.refuses(abort(4), tick, api.ErrState)
		} else {
			b.refuses(abort(5), tick, c.want)
			b.noneOpen()
			b.refuses(abort(5), tick, api.ErrState)
			b.well(abort(4), tick) // the last one that was
		}
		if !slices.EqualFunc(sectorsOf(t, b.d), ahead, bytes.Equal) {
			t.Errorf("%s: the disk is another", c.what)
		}
		b.well(open(7, 0, 30), tick) // another one may be
		b.isOpen(7, 0)
	}
}

// What was given up and what was sealed are two things, each of which is still told behind the other.
func TestAbortAndDone(t *testing.T) {
	b := begin(t)
	b.well(open(5, 1, 50), 1)
	b.well(abort(5), 1)
	tick := b.seals(6, 1, bytesOf(t, coded(1, 30, 20)), 1)
	for range 2 {
		b.well(abort(5), tick)
		b.well(done(6), tick)
		b.refuses(abort(6), tick, api.ErrState)
		b.refuses(done(5), tick, api.ErrState)
	}
	tick = b.seals(5, 2, bytesOf(t, coded(2, 30, 20)), tick)
	b.well(abort(5), tick)
	b.well(done(5), tick)
	b.refuses(done(6), tick, api.ErrState)
}

// No session has the number 0, be it sealed, given up, or open.
func TestNoSession(t *testing.T) {
	for _, l := range [][]api.Pdu{nil, {open(5, 1, 50)}, {open(5, 1, 50), abort(5)}} {
		b := begin(t)
		want := api.ErrState
		for _, p := range l {
			b.well(p, 1)
		}
		if len(l) == 1 {
			want = api.ErrSession
		}
		for _, p := range []api.Pdu{block(0, 0, nil), done(0), abort(0), ask(0)} {
			b.refuses(p, 1, want)
		}
		if len(l) == 1 {
			b.refuses(open(0, 1, 50), 1, api.ErrSession)
			b.isOpen(5, 1)
		} else {
			b.refuses(open(0, 1, 50), 1, api.ErrRange)
			b.noneOpen()
		}
	}
}

// PAsk.

// Each set of blocks that may be there, of each size: it is told, and nothing is written.
func TestAsk(t *testing.T) {
	bs := bytesOf(t, coded(2, 30, 18)) // five blocks
	for have := range 1 << 5 {
		b := begin(t)
		b.well(open(300, 2, len(bs)), 1)
		for no := range 5 {
			if have>>no&1 == 1 {
				b.well(block(300, no, bs), 1)
			}
		}
		b.fuse(0)
		for range 2 {
			b.answers(ask(300), 2, api.Pdu{Kind: api.PStatus, Session: 300, Part: 2, Size: len(bs), Have: have})
		}
		b.refuses(ask(301), 2, api.ErrSession)
		if b.d.Down() {
			t.Error("written")
		}
	}
}

// What is there of another session isn't there of the one that is open.
func TestAskPast(t *testing.T) {
	bs := bytesOf(t, coded(1, 30, 20))
	for _, st := range []api.Stage{{Session: 6, Size: len(bs)}, {Session: 5, Size: 40}} {
		b := begin(t)
		tick := b.loads(5, 1, bs, 1)
		b.past("begin another", func(s *store.Store) api.Errno { return s.Begin(1, st.Session, st.Size) }, api.OK)
		b.past("load another", func(s *store.Store) api.Errno { return s.Load(1, st.Session, 0, make([]byte, blockSize)) }, api.OK)
		b.answers(ask(5), tick, status(5, 1, len(bs), 0))
	}
}
