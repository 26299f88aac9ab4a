package timer

import (
	"math/rand/v2"
	"testing"
)

// whole says whether the map and the heap have the same entries, each where it says that it is, and nothing is kept of those that went.
func whole(t *testing.T, x *Timers) {
	t.Helper()
	if len(x.byName) != len(x.order) {
		t.Fatalf("%d names, %d places", len(x.byName), len(x.order))
	}
	for place, e := range x.order {
		if e.place != place || x.byName[e.name] != e {
			t.Fatalf("at %d: %+v; by its name: %+v", place, *e, x.byName[e.name])
		}
		if place > 0 && x.order.Less(place, (place-1)/2) {
			t.Fatalf("%+v is ahead of %+v", *e, *x.order[(place-1)/2])
		}
	}
	for place, e := range x.order[len(x.order):cap(x.order)] {
		if e != nil {
			t.Fatalf("behind the last one, at %d: %+v", place, *e)
		}
	}
}

// No more is kept than what is set, whatever was set before.
func TestNoMoreIsKept(t *testing.T) {
	for seed := range 200 {
		r := rand.New(rand.NewPCG(11, uint64(seed)))
		x := New()
		for range 300 {
			switch r.IntN(8) {
			case 0, 1, 2, 3, 4:
				x.Set(r.IntN(30), r.IntN(50))
			case 5, 6:
				x.Stop(r.IntN(30))
			default:
				x.Due(r.IntN(30))
			}
			whole(t, x)
		}
		x.Due(50)
		whole(t, x)
	}
}
