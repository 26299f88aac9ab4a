package link_test

import (
	"math"
	"slices"
	"strings"
	"testing"

	"longeron/api"
	"longeron/link"
)

// takes says whether these frames come out of a way, in this order, and no other ones.
func takes(t *testing.T, l *link.Link, way int, want ...string) {
	t.Helper()
	if n := l.Len(way); n != len(want) {
		t.Errorf("Len(%d): %d, want %d", way, n, len(want))
	}
	for n, f := range want {
		if b, is := l.Take(way); string(b) != f || !is {
			t.Errorf("way %d, frame %d: %q, %v; want %q", way, n, b, is, f)
		}
	}
	if b, is := l.Take(way); len(b) != 0 || is {
		t.Errorf("way %d: %q, %v, behind all", way, b, is)
	}
	if n := l.Len(way); n != 0 {
		t.Errorf("Len(%d): %d, behind all", way, n)
	}
}

// sent is a Link with these frames on a way.
func sent(way int, frames ...string) *link.Link {
	l := link.New()
	for _, f := range frames {
		l.Send(way, []byte(f))
	}
	return l
}

// is says whether each of the answers is the one that is wanted.
func is(t *testing.T, want api.Errno, got ...api.Errno) {
	t.Helper()
	for n, e := range got {
		if e != want {
			t.Errorf("%d: %v, want %v", n, e, want)
		}
	}
}

// P20.1: ordinary.

// The chapter's example.
func TestExample(t *testing.T) {
	for way := range 2 {
		l := link.New()
		is(t, api.OK, l.Send(way, []byte("a")), l.Send(way, []byte("b")), l.Swap(way, 0, 1))
		if b, is := l.Take(way); string(b) != "b" || !is {
			t.Errorf("%q, %v", b, is)
		}
		takes(t, l, way, "a")
	}
}

// What is sent on a way is taken from it, in that order, and not from the other one.
func TestInOrder(t *testing.T) {
	for way := range 2 {
		l := sent(way, "one", "two", "", "four")
		takes(t, l, 1-way)
		takes(t, l, way, "one", "two", "", "four")
	}
	l := link.New()
	for n, f := range []string{"a", "B", "c", "D", "e", "F"} {
		is(t, api.OK, l.Send(n%2, []byte(f)))
	}
	takes(t, l, 1, "B", "D", "F")
	is(t, api.OK, l.Send(1, []byte("G")))
	takes(t, l, 0, "a", "c", "e")
	takes(t, l, 1, "G")
}

// A frame is taken ahead of another one's being sent, behind it, and in turns.
func TestInTurns(t *testing.T) {
	for waits := range most {
		p := begin(t)
		p.fill(0, waits)
		for n := range 200 {
			p.story = nil
			p.send(0, frame(0, n))
			p.send(1, frame(1, n))
			p.take(0)
			p.take(1)
		}
		p.drain()
	}
}

// Lost, doubled, turned about and spoilt, on each way; written out by hand.
func TestByHand(t *testing.T) {
	for way := range 2 {
		l := sent(way, "abc", "de", "fghi")
		is(t, api.OK, l.Lose(way, 1))
		takes(t, l, way, "abc", "fghi")

		l = sent(way, "abc", "de", "fghi")
		is(t, api.OK, l.Twice(way, 1))
		takes(t, l, way, "abc", "de", "fghi", "de")

		l = sent(way, "abc", "de", "fghi")
		is(t, api.OK, l.Swap(way, 2, 0))
		takes(t, l, way, "fghi", "de", "abc")

		l = sent(way, "abc", "de", "fghi")
		is(t, api.OK, l.Spoil(way, 2, 1, 3), l.Spoil(way, 0, 2, -1))
		takes(t, l, way, "abb", "de", "fjhi")

		l = sent(way, "a", "b", "c", "d")
		is(t, api.OK, l.Twice(way, 3), l.Lose(way, 0), l.Swap(way, 0, 3), l.Spoil(way, 2, 0, 2), l.Twice(way, 2), l.Lose(way, 1))
		takes(t, l, way, "d", "f", "b", "f")
	}
}

// On both ways at once; written out by hand.
func TestBothWaysByHand(t *testing.T) {
	l := link.New()
	for _, f := range []string{"a", "b", "c"} {
		is(t, api.OK, l.Send(0, []byte(f)), l.Send(1, []byte(strings.ToUpper(f))))
	}
	is(t, api.OK, l.Swap(0, 0, 2), l.Lose(1, 0), l.Twice(0, 1), l.Spoil(1, 0, 0, 20))
	if l.Len(0) != 4 || l.Len(1) != 2 {
		t.Errorf("Len: %d, %d", l.Len(0), l.Len(1))
	}
	is(t, api.ErrNone, l.Lose(1, 2), l.Lose(0, 4))
	takes(t, l, 1, "V", "C")
	takes(t, l, 0, "c", "b", "a", "b")
}

// P20.1: the edges.

// A way that there isn't: ErrRange, nothing and 0, with few frames and many on the others; and these stay as they are.
func TestNoSuchWay(t *testing.T) {
	for _, many := range []int{0, 1, 31, most} {
		p := filled(t, many, most-many)
		for _, way := range noWays {
			for _, n := range []int{0, -1, 1, 31, 32, math.MinInt, math.MaxInt} {
				p.lose(way, n)
				p.twice(way, n)
				p.swap(way, n, 0)
				p.swap(way, 0, n)
				p.spoil(way, n, 0, 1)
				p.spoil(way, 0, n, 1)
			}
			p.send(way, "x")
			p.send(way, "")
			p.take(way)
			if n := p.link.Len(way); n != 0 {
				t.Errorf("Len(%d): %d", way, n)
			}
			p.story = nil
		}
		p.drain()
	}
}

// Ways -1, 0, 1 and 2, and the least and the greatest, with a frame on each that there is; written out by hand.
func TestWaysByHand(t *testing.T) {
	for way, there := range map[int]bool{-1: false, 0: true, 1: true, 2: false, math.MinInt: false, math.MaxInt: false} {
		want, many := api.ErrRange, 0
		if there {
			want, many = api.OK, 2
		}
		l := sent(0, "a")
		is(t, api.OK, l.Send(1, []byte("a")))
		is(t, want, l.Send(way, []byte("b")), l.Swap(way, 0, 1), l.Spoil(way, 0, 0, 1), l.Twice(way, 0), l.Lose(way, 1))
		if n := l.Len(way); n != many {
			t.Errorf("Len(%d): %d, want %d", way, n, many)
		}
		if b, is := l.Take(way); is != there || there && string(b) != "c" || !there && len(b) != 0 {
			t.Errorf("Take(%d): %q, %v", way, b, is)
		}
		if l.Len(0)+l.Len(1) != 2 {
			t.Errorf("way %d: %d and %d are left", way, l.Len(0), l.Len(1))
		}
	}
}

// A way takes 32 frames, and no 33rd one, whether it is sent or another one a second time; what is lost there is nowhere.
func TestFull(t *testing.T) {
	for way := range 2 {
		for doubled := range 3 {
			l := link.New()
			put := func(n int) api.Errno {
				if n > 0 && n%3 < doubled {
					return l.Twice(way, 0)
				}
				return l.Send(way, []byte{byte(n)})
			}
			for n := range most {
				if e := put(n); e != api.OK || l.Len(way) != n+1 {
					t.Fatalf("frame %d: %v; Len: %d", n, e, l.Len(way))
				}
			}
			for range 3 {
				is(t, api.ErrFull, l.Send(way, []byte{99}), l.Send(way, nil), l.Twice(way, 0), l.Twice(way, 31), l.Twice(way, 15))
				is(t, api.OK, l.Send(1-way, nil))
			}
			if l.Len(way) != most || l.Len(1-way) != 3 {
				t.Errorf("Len: %d, %d", l.Len(way), l.Len(1-way))
			}
			for n := range most {
				want := byte(n)
				if n > 0 && n%3 < doubled {
					want = 0
				}
				if b, is := l.Take(way); !slices.Equal(b, []byte{want}) || !is {
					t.Errorf("frame %d: %v, %v", n, b, is)
				}
			}
		}
	}
}

// Send and Twice with 0, 1, 31 and 32 frames, and behind a Take, and a Lose, of a full way: there is room for one.
func TestRoomForOne(t *testing.T) {
	for _, many := range []int{0, 1, 30, 31, most} {
		for _, free := range []func(p *pair){
			func(p *pair) {},
			func(p *pair) { p.take(0) },
			func(p *pair) { p.lose(0, 0) },
			func(p *pair) { p.lose(0, 31) },
			func(p *pair) { p.lose(0, 16) },
			func(p *pair) { p.take(0); p.lose(0, 30) },
			func(p *pair) { p.swap(0, 0, 31); p.take(0) },
		} {
			for rest := range most + 1 {
				p := filled(t, many, rest)
				free(p)
				p.send(0, "new")
				p.send(0, "newer")
				p.take(0)
				p.twice(0, 0)
				p.twice(0, 30)
				p.twice(0, 31)
				p.send(0, "")
				p.drain()
			}
		}
	}
}

// Each number of frames with each frame number: those that are there are lost, doubled, turned about and spoilt, and of the others there is none.
func TestFrameNumbers(t *testing.T) {
	for _, many := range []int{0, 1, 2, 3, 8, 31, most} {
		for _, i := range numbers(many) {
			p := filled(t, many, 3)
			p.lose(0, i)
			p.drain()
			p = filled(t, 3, many)
			p.twice(1, i)
			p.drain()
			p = filled(t, many, 3)
			p.spoil(0, i, 0, 1)
			p.drain()
			for _, k := range numbers(many) {
				p = filled(t, many, 2)
				p.swap(0, i, k)
				p.swap(0, k, i)
				p.swap(0, i, k)
				p.drain()
			}
		}
	}
}

// No such frame, written out by hand: none is there at all, or one is, which has the number 0.
func TestNoSuchFrameByHand(t *testing.T) {
	for way := range 2 {
		l := link.New()
		for _, n := range []int{0, -1, 1, 31, 32, math.MinInt, math.MaxInt} {
			is(t, api.ErrNone, l.Lose(way, n), l.Twice(way, n), l.Swap(way, n, n), l.Swap(way, n, 0), l.Swap(way, 0, n), l.Spoil(way, n, 0, 1))
		}
		is(t, api.OK, l.Send(way, []byte("a")))
		for _, n := range []int{-1, 1, 31, 32, math.MinInt, math.MaxInt} {
			is(t, api.ErrNone, l.Lose(way, n), l.Twice(way, n), l.Swap(way, n, n), l.Swap(way, n, 0), l.Swap(way, 0, n), l.Spoil(way, n, 0, 1))
		}
		is(t, api.OK, l.Swap(way, 0, 0), l.Spoil(way, 0, 0, 1), l.Twice(way, 0), l.Lose(way, 0))
		takes(t, l, way, "b")
	}
}

// Each of each number of frames is lost: those behind it move up by one number, those ahead keep theirs, which are what Spoil, Twice and Swap then find.
func TestNumbersBehindLose(t *testing.T) {
	for many := 1; many <= most; many++ {
		for i := range many {
			p := filled(t, many, many)
			p.lose(0, i)
			for n := -1; n <= many; n++ {
				p.spoil(0, n, 0, n+1)
			}
			p.lose(1, many-1-i)
			p.twice(0, i-1)
			p.twice(0, i)
			p.swap(0, i-1, i)
			p.swap(1, 0, many-2)
			p.drain()
		}
	}
}

// The first, one in the midst and the last one are lost; written out by hand.
func TestLoseByHand(t *testing.T) {
	for i, want := range [][]string{{"b", "c", "d", "e"}, {"a", "c", "d", "e"}, {"a", "b", "d", "e"}, {"a", "b", "c", "e"}, {"a", "b", "c", "d"}} {
		l := sent(0, "a", "b", "c", "d", "e")
		is(t, api.OK, l.Lose(0, i))
		is(t, api.ErrNone, l.Lose(0, 4))
		is(t, api.OK, l.Send(0, []byte("f")))
		takes(t, l, 0, append(want, "f")...)
	}
	l := sent(1, "a", "b", "c")
	is(t, api.OK, l.Lose(1, 2), l.Lose(1, 0), l.Lose(1, 0))
	is(t, api.ErrNone, l.Lose(1, 0))
	takes(t, l, 1)
}

// All of five frames, and of a full way, are lost, in each order, or in rising, falling and mixed order.
func TestLoseAll(t *testing.T) {
	orders(5, func(order []int) {
		p := filled(t, 5, 5)
		for n, i := range order {
			p.lose(0, i-n) // of some there is none: the numbers of those that are left fall
			p.lose(1, i%(5-n))
		}
		p.drain()
	})
	for _, next := range []func(left int) int{
		func(left int) int { return 0 },
		func(left int) int { return left - 1 },
		func(left int) int { return left / 2 },
		func(left int) int { return left * 7 % 5 % left },
	} {
		p := filled(t, most, most)
		for left := most; left > 0; left-- {
			p.lose(0, next(left))
			p.lose(1, left)
		}
		p.lose(0, 0)
		p.send(0, "again")
		p.drain()
	}
}

// Each two of each number of frames change places, a frame with itself, neighbours, and the first with the last one, too; twice, and they are where they were.
func TestSwap(t *testing.T) {
	for _, many := range []int{1, 2, 3, 5, most} {
		for i := range many {
			for k := range many {
				p := filled(t, many, 2)
				p.swap(0, i, k)
				p.spoil(0, i, 0, 5)
				p.drain()
				p = filled(t, 2, many)
				p.swap(1, i, k)
				p.swap(1, i, k)
				p.drain()
				p = filled(t, many, 0)
				p.swap(0, i, k)
				p.lose(0, k)
				p.twice(0, i)
				p.drain()
			}
		}
	}
}

// Each row of four swaps among three frames; written as what stands where.
func TestSwapRows(t *testing.T) {
	rows(4, 9, func(row []int) {
		l := sent(0, "a", "b", "c")
		want := []string{"a", "b", "c"}
		for _, x := range row {
			i, k := x%3, x/3
			is(t, api.OK, l.Swap(0, i, k))
			want[i], want[k] = want[k], want[i]
		}
		takes(t, l, 0, want...)
	})
}

// Each byte that there is, by each number that may be added, and by many more: modulo 256.
func TestSpoilEach(t *testing.T) {
	var all []byte
	for n := range 256 {
		all = append(all, byte(n))
	}
	for by := -600; by <= 600; by++ {
		l := sent(0, string(all))
		for at := range all {
			is(t, api.OK, l.Spoil(0, 0, at, by))
		}
		b, is := l.Take(0)
		if !is || len(b) != len(all) {
			t.Fatalf("by %d: %v, %v", by, b, is)
		}
		for at, x := range b {
			if want := (at + by + 1024) % 256; int(x) != want {
				t.Errorf("%d by %d: %d, want %d", at, by, x, want)
			}
		}
	}
}

// By 0, 1, -1, 255, 256 and the least and the greatest number; written out by hand.
func TestSpoilByHand(t *testing.T) {
	for _, c := range []struct{ by, from0, from7, from255 int }{
		{0, 0, 7, 255}, {1, 1, 8, 0}, {-1, 255, 6, 254}, {255, 255, 6, 254}, {256, 0, 7, 255}, {-256, 0, 7, 255}, {257, 1, 8, 0},
		{-255, 1, 8, 0}, {128, 128, 135, 127}, {1000, 232, 239, 231}, {math.MinInt, 0, 7, 255}, {math.MinInt + 3, 3, 10, 2}, {math.MaxInt, 255, 6, 254},
		{math.MaxInt - 255, 0, 7, 255}, {1 << 32, 0, 7, 255}, {1<<32 - 1, 255, 6, 254}, {-1<<32 + 5, 5, 12, 4},
	} {
		l := sent(1, "first", "\x00\x07\xff", "last")
		is(t, api.OK, l.Spoil(1, 1, 0, c.by), l.Spoil(1, 1, 1, c.by), l.Spoil(1, 1, 2, c.by))
		takes(t, l, 1, "first", string([]byte{byte(c.from0), byte(c.from7), byte(c.from255)}), "last")
	}
}

// At each byte of frames of several lengths, and where there is none: -1, one behind the last one, far off; of frames of no bytes, which there are two of, no byte may be spoilt, and they are taken as any other.
func TestSpoilPlaces(t *testing.T) {
	for _, long := range []int{0, 1, 2, 3, 7, 64, 300} {
		for _, at := range append([]int{0, 1, long / 2, long - 2, long - 1, long, long + 1, 2 * long}, far...) {
			for _, by := range []int{0, 1, -1, 255, 256, math.MinInt, math.MaxInt} {
				for i := range 3 {
					p := begin(t)
					for range 3 {
						p.send(0, strings.Repeat("x", long))
						p.send(1, "y")
					}
					p.spoil(0, i, at, by)
					p.spoil(1, i, at, by)
					p.spoil(0, 3, at, by)
					p.drain()
				}
			}
		}
	}
}

// Where there is no byte, written out by hand.
func TestNoSuchByteByHand(t *testing.T) {
	l := sent(0, "ab", "", "c")
	for _, at := range []int{-1, 2, 3, math.MinInt, math.MaxInt, 256, 1 << 32} {
		is(t, api.ErrArg, l.Spoil(0, 0, at, 1), l.Spoil(0, 0, at, 0))
	}
	for _, at := range []int{-1, 0, 1, math.MinInt, math.MaxInt} {
		is(t, api.ErrArg, l.Spoil(0, 1, at, 1))
	}
	is(t, api.ErrArg, l.Spoil(0, 2, 1, 1))
	takes(t, l, 0, "ab", "", "c")
}

// Of a frame and its second one either is spoilt, once and more often, or lost, or taken: the other one stays as it was.
func TestTwiceThenSpoil(t *testing.T) {
	for way := range 2 {
		l := sent(way, "abc", "x")
		is(t, api.OK, l.Twice(way, 0), l.Spoil(way, 0, 1, 5))
		takes(t, l, way, "agc", "x", "abc")

		l = sent(way, "abc", "x")
		is(t, api.OK, l.Twice(way, 0), l.Spoil(way, 2, 1, 5))
		takes(t, l, way, "abc", "x", "agc")

		l = sent(way, "abc")
		is(t, api.OK, l.Twice(way, 0), l.Twice(way, 1), l.Spoil(way, 1, 0, 1), l.Twice(way, 1), l.Spoil(way, 2, 2, 1), l.Spoil(way, 3, 1, 1), l.Spoil(way, 1, 0, 1))
		takes(t, l, way, "abc", "cbc", "abd", "bcc")
	}
}

// Each frame of each number is there a second time; each of the two is spoilt at each byte.
func TestTwiceEach(t *testing.T) {
	for many := 1; many < most; many++ {
		for i := range many {
			p := filled(t, many, 1)
			p.twice(0, i)
			for at := range frame(0, i) {
				p.spoil(0, i, at, 1)
				p.spoil(0, many, at, -1)
			}
			p.twice(0, many)
			p.swap(0, i, many)
			p.drain()
		}
	}
}

// Frames of no bytes, nil and empty, are frames as any other.
func TestNoBytes(t *testing.T) {
	for way := range 2 {
		l := link.New()
		is(t, api.OK, l.Send(way, nil), l.Send(way, []byte{}), l.Send(way, make([]byte, 0, 9)), l.Send(way, []byte("a")), l.Send(way, nil))
		is(t, api.OK, l.Twice(way, 0), l.Twice(way, 1), l.Swap(way, 0, 3), l.Lose(way, 1))
		is(t, api.ErrArg, l.Spoil(way, 1, 0, 1), l.Spoil(way, 5, 0, 1))
		takes(t, l, way, "a", "", "", "", "", "")
	}
	p := begin(t)
	for range most {
		p.send(1, "")
	}
	p.send(1, "")
	p.drain()
}

// Frames of each length up to 300 bytes, and of many: they come out as they were sent.
func TestLengths(t *testing.T) {
	for long := range 301 {
		p := begin(t)
		p.send(long%2, strings.Repeat("ab", long)[:long])
		p.twice(long%2, 0)
		p.drain()
	}
	long := strings.Repeat("0123456789", 200_000)
	l := sent(0, long, "", long)
	is(t, api.OK, l.Twice(0, 2), l.Spoil(0, 0, len(long)-1, 1), l.Lose(0, 1))
	is(t, api.ErrArg, l.Spoil(0, 0, len(long), 1))
	takes(t, l, 0, long[:len(long)-1]+":", long, long)
}

// There is nothing to take of an empty way, whether there never was a frame, or all were taken or lost; the other way's frames stay.
func TestTakeOfNone(t *testing.T) {
	for _, others := range []int{0, 1, most} {
		for many := range most + 1 {
			p := filled(t, many, others)
			for n := range many {
				if n%3 == 1 {
					p.lose(0, 0)
				} else {
					p.take(0)
				}
			}
			for range 3 {
				p.take(0)
			}
			p.send(0, "a")
			p.take(0)
			p.take(0)
			p.drain()
		}
	}
}

// P20.1: Of a nil Link: ErrNil, whatever else is wrong, nothing, and 0.
func TestNil(t *testing.T) {
	var l *link.Link
	for _, way := range append([]int{0, 1}, noWays...) {
		for _, n := range append([]int{0, 1, 31, 32}, far...) {
			is(t, api.ErrNil, l.Lose(way, n), l.Twice(way, n), l.Swap(way, n, 0), l.Swap(way, 0, n), l.Swap(way, n, n), l.Spoil(way, n, 0, 1), l.Spoil(way, 0, n, 1), l.Spoil(way, 0, 0, n))
		}
		is(t, api.ErrNil, l.Send(way, nil), l.Send(way, []byte{}), l.Send(way, []byte("a")))
		if b, is := l.Take(way); len(b) != 0 || is {
			t.Errorf("Take(%d): %q, %v", way, b, is)
		}
		if n := l.Len(way); n != 0 {
			t.Errorf("Len(%d): %d", way, n)
		}
	}
	for way := range 2 {
		takes(t, link.New(), way)
	}
}
