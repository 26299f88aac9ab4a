package loader_test

import (
	"math"
	"math/rand/v2"
	"slices"
	"testing"

	"longeron/api"
	"longeron/disk"
	"longeron/loader"
	"longeron/pdu"
	"longeron/store"
)

// extremes are numbers at the edges of what fits into a message, and far beyond.
var extremes = []int{math.MinInt, -1 << 32, -65536, -1, 0, 1, 2, 3, 5, 9, 10, 16, 50, 160, 161, 255, 256, 65535, 65536, 1 << 32, math.MaxInt}

// R1: Loaders that aren't there, and Loaders without a store: nothing, false, whatever they are handed.
func TestNoLoader(t *testing.T) {
	var none *loader.Loader
	without := loader.New(nil)
	for _, l := range []*loader.Loader{none, without} {
		all := append(asked(t), wrongs()...)
		all = append(all, well(done(5)), refused(done(5), api.ErrState), status(5, 1, 50, 1))
		for range 2 {
			for _, p := range all {
				for _, tick := range []int{math.MinInt, -1, 0, 1, 20, math.MaxInt} {
					if a, is := l.Hear(p, tick); is || !pdu.Same(a, api.Pdu{}) {
						t.Errorf("%s: %s, %v", shown(p), shown(a), is)
					}
					if l.Tick(tick) {
						t.Errorf("Tick(%d): true", tick)
					}
					if s, part, is := l.Open(); s != 0 || part != 0 || is {
						t.Errorf("Open: %d, %d, %v", s, part, is)
					}
				}
			}
		}
	}
}

// R1: each kind, with each number in each field, at each tick, with a session open and without one; each ends, none panics.
func TestAllNumbers(t *testing.T) {
	data := make([]byte, blockSize)
	for kind := -1; kind <= 9; kind++ {
		b := begin(t)
		for n, x := range extremes {
			for m, y := range extremes {
				tick := extremes[(3*n+m)%len(extremes)]
				for _, p := range []api.Pdu{
					{Kind: kind, Session: x, Part: y, Size: 50}, {Kind: kind, Session: x, Part: 1, Size: y}, {Kind: kind, Session: 5, Part: x, Size: y},
					{Kind: kind, Session: x, No: y, Data: data}, {Kind: kind, Session: x, Data: make([]byte, min(max(y, 0), 300))},
					{Kind: kind, Session: x}, {Kind: kind, Session: x, What: y, No: x, Code: y}, {Kind: kind, Session: x, Part: y, Size: y, Have: x},
				} {
					b.story = nil
					b.hear(p, tick)
				}
				if (n+m)%5 == 0 {
					b.tick(extremes[(n+7*m)%len(extremes)])
				}
			}
		}
	}
}

// R2: what is refused changes nothing that a later call could tell, but for when the session times out, if it was of that one.
func TestRefused(t *testing.T) {
	for _, make := range states(t) {
		for _, p := range append(asked(t), wrongs()...) {
			b, left := make(), make()
			ahead := sectorsOf(t, b.d)
			if a, is := b.hear(p, 45); is && a.Kind != api.PNack || p.Kind == api.PAbort && is && a.Code != int(api.ErrState) && a.Code != int(api.ErrSession) {
				continue
			}
			if !slices.EqualFunc(sectorsOf(t, b.d), ahead, slices.Equal) {
				t.Errorf("%s: the disk is another", shown(p))
			}
			for _, q := range asked(t) {
				got, is := b.hear(q, 46)
				want, wantIs := left.hear(q, 46)
				if is != wantIs || !pdu.Same(got, want) {
					t.Fatalf("behind %s, %s: %s, %v; want %s, %v", shown(p), shown(q), shown(got), is, shown(want), wantIs)
				}
			}
		}
	}
}

// R3: each field of an answer that isn't of its kind is zero, as all answers are messages; R4: they have no bytes that could be another's.
func TestAnswers(t *testing.T) {
	for _, make := range states(t) {
		for _, p := range asked(t) {
			b := make()
			a, is := b.hear(p, 45)
			if !is || !pdu.Right(a) || pdu.Asks(a) || len(a.Data) != 0 || a.Session != p.Session {
				t.Errorf("%s: %s, %v", shown(p), shown(a), is)
			}
			if a.Kind != api.PStatus && (a.What != p.Kind || a.No != p.No) {
				t.Errorf("%s: %s", shown(p), shown(a))
			}
		}
	}
}

// R5: two loaders, of two stores, have nothing to do with each other.
func TestTwoLoaders(t *testing.T) {
	for seed := range uint64(12) {
		r := rand.New(rand.NewPCG(seed, 3))
		p, q := newScript(t, r.IntN), newScript(t, r.IntN)
		for range 150 {
			one, other := p, q
			if r.IntN(2) == 0 {
				one, other = q, p
			}
			one.step()
			other.judge()
		}
	}
}

// R5: two loaders of one store: each has its own session, and what one does to the store the other one sees.
func TestOneStore(t *testing.T) {
	s := made(t)
	one, other := loader.New(s.s), loader.New(s.s)
	bs := bytesOf(t, coded(1, 30, 20))
	hear := func(l *loader.Loader, p, want api.Pdu) {
		t.Helper()
		if got, is := l.Hear(p, 1); !is || !pdu.Same(got, want) {
			t.Fatalf("%s: %s, %v; want %s", shown(p), shown(got), is, shown(want))
		}
	}
	p := open(5, 1, len(bs))
	hear(one, p, well(p))
	hear(one, block(5, 0, bs), well(block(5, 0, bs)))
	if _, _, is := other.Open(); is {
		t.Error("open in the other one")
	}
	hear(other, p, well(p)) // gone on with
	hear(other, block(5, 2, bs), well(block(5, 2, bs)))
	hear(one, ask(5), status(5, 1, len(bs), 5))
	hear(other, abort(5), well(abort(5)))
	hear(one, ask(5), status(5, 1, len(bs), 0))
	hear(one, block(5, 3, bs), refused(block(5, 3, bs), api.ErrState))
	hear(one, abort(5), well(abort(5)))
}

// R5: the same calls on a new loader, a new store and a new disk answer the same again.
func TestSameAgain(t *testing.T) {
	for seed := range uint64(10) {
		var first []api.Pdu
		for round := range 3 {
			r := rand.New(rand.NewPCG(seed, 4))
			s := newScript(t, r.IntN)
			for range 120 {
				s.step()
			}
			if round == 0 {
				first = s.told
			}
			if !slices.EqualFunc(s.told, first, pdu.Same) {
				t.Errorf("round %d answers %v, want %v", round, s.told, first)
			}
		}
	}
}

// A loader serves a store of each number of partitions.
func TestStores(t *testing.T) {
	for n := 2; n <= 4; n++ {
		x := tabled()
		x.Channels = nil
		for len(x.Parts) < n {
			x.Parts = append(x.Parts, x.Parts[0])
		}
		x.Parts = x.Parts[:n]
		x.Windows = x.Windows[:1]
		var images []api.Image
		for part := range n {
			images = append(images, api.Image{Part: part, Version: 1, Hard: x.Parts[part].Hard, Mem: 1, Fuel: 1, Code: []byte{0}})
		}
		s, e := store.Make(disk.New(10*n), x, images)
		if e != api.OK {
			t.Fatal(e)
		}
		l := loader.New(s)
		for part := range 256 {
			want := well(open(1+part, part, 50))
			if part >= n {
				want = refused(open(1+part, part, 50), api.ErrRange)
			}
			if a, is := l.Hear(open(1+part, part, 50), part); !is || !pdu.Same(a, want) {
				t.Errorf("%d partitions: of %d: %s, %v", n, part, shown(a), is)
			}
			l.Hear(abort(1+part), part)
		}
	}
}
