package link_test

import (
	"math"
	"math/rand/v2"
	"slices"
	"strings"
	"testing"

	"longeron/api"
	"longeron/link"
)

// wipe writes over bytes, spare room included.
func wipe(b []byte) {
	for n := range b[:cap(b)] {
		b[:cap(b)][n] ^= 0xa5
	}
}

// R1: each call with each way, frame numbers, place and addend of these, with no frames, few and all; each ends, none panics, and each answers what the model does.
func TestAllNumbers(t *testing.T) {
	some := []int{math.MinInt, -1 << 32, -2, -1, 0, 1, 2, 31, 32, 256, 1 << 32, math.MaxInt}
	for _, many := range []int{0, 1, 2, most} {
		p := filled(t, many, 2-many%2)
		for _, way := range some {
			for _, i := range some {
				for _, k := range some {
					p.story = nil
					p.swap(way, i, k)
					p.spoil(way, i, k, i)
					p.spoil(way, i, k, k)
				}
				p.twice(way, i)
				p.lose(way, i)
			}
			p.take(way)
			p.send(way, "ab")
		}
		p.drain()
	}
}

// R2: of several errors that apply the first one that the call names is told: no Link, no way, no frame, no room, no byte. Written out by hand, with a way that is full and one that is empty.
func TestErrorsOrder(t *testing.T) {
	l := sent(0, slices.Repeat([]string{"a"}, most)...)
	var none *link.Link
	bad := []int{-1, 32, 33, math.MinInt, math.MaxInt}
	for _, way := range noWays {
		is(t, api.ErrNil, none.Send(way, nil), none.Lose(way, -1), none.Twice(way, -1), none.Swap(way, -1, -1), none.Spoil(way, -1, -1, 1))
		is(t, api.ErrRange, l.Send(way, nil), l.Lose(way, 0), l.Twice(way, 0), l.Swap(way, 0, 0), l.Spoil(way, 0, 0, 1))
		for _, n := range bad {
			is(t, api.ErrRange, l.Lose(way, n), l.Twice(way, n), l.Swap(way, n, 0), l.Swap(way, 0, n), l.Swap(way, n, n), l.Spoil(way, n, 0, 1), l.Spoil(way, 0, n, 1), l.Spoil(way, n, n, 1))
		}
	}
	for _, n := range bad {
		is(t, api.ErrNone, l.Lose(0, n), l.Twice(0, n), l.Swap(0, n, 0), l.Swap(0, 31, n), l.Swap(0, n, n), l.Spoil(0, n, 0, 1))
		for _, at := range append(bad, 0, 1) {
			is(t, api.ErrNone, l.Spoil(0, n, at, 1), l.Spoil(1, n, at, 1), l.Spoil(1, 0, at, 1))
		}
		is(t, api.ErrArg, l.Spoil(0, 31, n, 1), l.Spoil(0, 0, 1, n))
	}
	is(t, api.ErrNone, l.Lose(1, 0), l.Twice(1, 0), l.Swap(1, 0, 0), l.Spoil(1, 0, 0, 1))
	is(t, api.ErrFull, l.Send(0, nil), l.Send(0, []byte("b")), l.Twice(0, 0), l.Twice(0, 31))
	takes(t, l, 1)
	takes(t, l, 0, slices.Repeat([]string{"a"}, most)...)
}

// refused are the answers to calls that are to be refused of a way with so many frames, of which none has more than ten bytes.
func refused(l *link.Link, way, many int) []api.Errno {
	var told []api.Errno
	for _, w := range append([]int{way}, noWays...) {
		for _, n := range []int{many, many + 1, -1, -2, math.MinInt, math.MaxInt} {
			told = append(told, l.Lose(w, n), l.Twice(w, n), l.Swap(w, n, n), l.Swap(w, 0, n), l.Swap(w, n, 0), l.Swap(w, many-1, n), l.Spoil(w, n, 0, 1))
		}
		for _, at := range []int{-1, 10, 256, math.MinInt, math.MaxInt} {
			told = append(told, l.Spoil(w, 0, at, 1), l.Spoil(w, many-1, at, 1))
		}
		if w != way || many == most {
			told = append(told, l.Send(w, []byte("more")), l.Twice(w, 0), l.Twice(w, many-1))
		}
	}
	return told
}

// R2: what is refused changes nothing: what is done behind it answers as it would have.
func TestRefusedChangesNothing(t *testing.T) {
	for _, many := range []int{0, 1, 2, 5, 31, most} {
		for way := range 2 {
			p := begin(t)
			p.fill(way, many)
			p.fill(1-way, 3)
			for n, e := range refused(p.link, way, many) {
				if e == api.OK {
					t.Errorf("%d frames, %d: %v", many, n, e)
				}
			}
			p.judge()
			p.swap(way, 0, many-1)
			p.twice(way, many/2)
			p.lose(way, 1)
			refused(p.link, way, len(p.ways[way]))
			p.send(way, "behind")
			p.drain()
		}
	}
}

// R4: bytes that were sent may change behind it, spare room included: the frames stay.
func TestSentMayChange(t *testing.T) {
	for long := range 70 {
		for spare := range 4 {
			b := append(make([]byte, 0, long+16*spare), strings.Repeat("ab", long)[:long]...)
			was := string(b)
			l := link.New()
			is(t, api.OK, l.Send(0, b), l.Send(1, b))
			wipe(b)
			is(t, api.OK, l.Twice(0, 0), l.Send(0, b))
			now := string(b)
			wipe(b)
			takes(t, l, 0, was, was, now)
			takes(t, l, 1, was)
		}
	}
}

// R4: bytes that are sent stay as they are, with all that stands ahead of them and behind them, whatever is done with the frames.
func TestSentStays(t *testing.T) {
	for long := range 9 {
		for _, room := range []int{long, long + 1, 16} {
			all := []byte("0123456789abcdefghijklmnopqrstuv")
			b := all[8 : 8+long : 8+room]
			l := link.New()
			is(t, api.OK, l.Send(0, b), l.Send(0, b), l.Send(1, b), l.Twice(0, 1), l.Swap(0, 0, 1))
			for at := range long {
				is(t, api.OK, l.Spoil(0, 0, at, 1), l.Spoil(0, 1, at, 2), l.Spoil(0, 2, at, 3), l.Spoil(1, 0, at, 4))
			}
			for n := range 4 {
				b, is := l.Take(n / 3)
				if !is || len(b) != long {
					t.Fatalf("Take %d: %q, %v", n, b, is)
				}
				wipe(append(b, "more"...))
				wipe(b)
			}
			if string(all) != "0123456789abcdefghijklmnopqrstuv" {
				t.Errorf("%d bytes with %d room: %q", long, room, all)
			}
		}
	}
}

// R4: what was taken may be written over, spare room included, and more may be put behind it: no frame, and nothing that was taken, is another one.
func TestTakenMayChange(t *testing.T) {
	for seed := range 300 {
		r := rand.New(rand.NewPCG(1, uint64(seed)))
		p := begin(t)
		var told [][]byte
		var was []string
		for n := range 200 {
			p.story = nil
			p.step(r, 5)
			if n%3 == 2 {
				b := p.take(n % 2)
				told, was = append(told, b), append(was, string(b))
			}
			if len(told) > 4 {
				wipe(append(told[0], "more"...))
				wipe(told[0])
				told, was = told[1:], was[1:]
			}
		}
		p.drain()
		for n, b := range told {
			if string(b) != was[n] {
				t.Errorf("%q, was %q", b, was[n])
			}
		}
	}
}

// R4: what was taken stays as it was, though one like it is there still, and is spoilt.
func TestTakenStays(t *testing.T) {
	for way := range 2 {
		for long := 1; long < 70; long++ {
			f := strings.Repeat("xy", long)[:long]
			l := sent(way, f)
			is(t, api.OK, l.Twice(way, 0), l.Twice(way, 1), l.Send(1-way, []byte(f)))
			one, _ := l.Take(way)
			for at := range long {
				is(t, api.OK, l.Spoil(way, 0, at, 1), l.Spoil(way, 1, at, 2), l.Spoil(1-way, 0, at, 3))
			}
			two, _ := l.Take(way)
			spoilt := string(two)
			wipe(two)
			is(t, api.OK, l.Spoil(way, 0, 0, 1), l.Send(way, []byte("more")))
			if string(one) != f || spoilt == f {
				t.Errorf("%q and %q, of %q", one, spoilt, f)
			}
		}
	}
}

// R5: the one way doesn't mind what is done on the other: its frames come out as if it were alone, though it is refused there, too, or the other one is full.
func TestOtherWay(t *testing.T) {
	for seed := range 200 {
		r := rand.New(rand.NewPCG(2, uint64(seed)))
		way := seed % 2
		l, alone := link.New(), link.New()
		for range 300 {
			i, k, by := r.IntN(6), r.IntN(6), r.IntN(600)
			f := []byte(text(r, r.IntN(5)))
			ask := r.IntN(7)
			if a, b := answer(l, way, ask, i, k, by, f), answer(alone, way, ask, i, k, by, f); a != b {
				t.Fatalf("call %d of frames %d, %d: %q, and alone: %q", ask, i, k, a, b)
			}
			for range r.IntN(4) {
				answer(l, 1-way, r.IntN(7), r.IntN(8), r.IntN(8), by, f)
			}
		}
		if n := alone.Len(1 - way); n != 0 {
			t.Errorf("%d frames are on the other way", n)
		}
	}
}

// answer does one of the calls, and tells what it answered, and how many frames there are then.
func answer(l *link.Link, way, ask, i, k, by int, f []byte) string {
	told := ""
	switch ask {
	case 0:
		told = l.Send(way, f).Error()
	case 1:
		told = l.Twice(way, i).Error()
	case 2:
		told = l.Swap(way, i, k).Error()
	case 3:
		told = l.Spoil(way, i, k, by).Error()
	case 4:
		told = l.Lose(way, i).Error()
	case 5:
		told = l.Send(way, f[:len(f)/2]).Error()
	default:
		if b, is := l.Take(way); is {
			told = "a frame: " + string(b)
		}
	}
	return told + " " + strings.Repeat("i", l.Len(way))
}

// story are all the answers of a script at random on a new Link.
func story(seed uint64) []string {
	r := rand.New(rand.NewPCG(seed, 3))
	l := link.New()
	var all []string
	for range 600 {
		all = append(all, answer(l, r.IntN(2), r.IntN(7), r.IntN(5), r.IntN(5), r.IntN(999), []byte(text(r, r.IntN(6)))))
	}
	return all
}

// R5: the same calls on a new Link answer the same again, whatever was done meanwhile.
func TestSameAgain(t *testing.T) {
	for seed := range uint64(30) {
		first := story(seed)
		for other := range uint64(4) {
			story(1000 + other)
			if again := story(seed); !slices.Equal(again, first) {
				t.Errorf("seed %d: %q, want %q", seed, again, first)
			}
		}
	}
}

// R5: two Links have nothing to do with each other, though the same bytes are sent on both, and what one told is sent on the other.
func TestTwoLinks(t *testing.T) {
	for seed := range 60 {
		r := rand.New(rand.NewPCG(4, uint64(seed)))
		p, q := begin(t), begin(t)
		for round := range 300 {
			p.story, q.story = nil, nil
			one, other := p, q
			if r.IntN(2) == 0 {
				one, other = q, p
			}
			one.step(r, 4)
			other.judge()
			b := []byte(text(r, r.IntN(5)))
			if len(p.ways[0]) < most && len(q.ways[1]) < most {
				is(t, api.OK, p.link.Send(0, b), q.link.Send(1, b))
				p.ways[0], q.ways[1] = append(p.ways[0], string(b)), append(q.ways[1], string(b))
			}
			if taken := one.take(0); len(other.ways[0]) < most {
				is(t, api.OK, other.link.Send(0, taken))
				other.ways[0] = append(other.ways[0], string(taken))
			}
			if round == 150 {
				q.drain()
				q = begin(t)
				p.judge()
			}
		}
		p.drain()
		q.judge()
		q.drain()
	}
}
