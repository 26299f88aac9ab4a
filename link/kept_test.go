package link

import (
	"math/rand/v2"
	"testing"

	"longeron/api"
)

// spare says whether the room behind the frames of each way holds on to any.
func spare(t *testing.T, l *Link) {
	t.Helper()
	for way, frames := range l.ways {
		for n, b := range frames[len(frames):cap(frames)] {
			if b != nil {
				t.Fatalf("way %d: %q is kept, %d behind the last frame", way, b, n)
			}
		}
	}
}

// No more is kept than what is on its way, whatever was there before: neither behind the frames, nor in the list in which one stood that went.
func TestNoMoreIsKept(t *testing.T) {
	for seed := range 200 {
		r := rand.New(rand.NewPCG(5, uint64(seed)))
		l := New()
		for range 400 {
			way, i := r.IntN(2), r.IntN(8)
			was := l.ways[way]
			switch r.IntN(8) {
			case 0, 1, 2:
				l.Send(way, make([]byte, r.IntN(9)))
			case 3:
				l.Twice(way, i)
			case 4:
				l.Swap(way, i, r.IntN(8))
			case 5, 6:
				if l.Lose(way, i) == api.OK && was[i] != nil {
					t.Fatalf("%d of %d was lost, and is kept", i, len(was))
				}
			default:
				if _, is := l.Take(way); is && was[0] != nil {
					t.Fatalf("the first one of %d was taken, and is kept", len(was))
				}
			}
			spare(t, l)
		}
	}
}
