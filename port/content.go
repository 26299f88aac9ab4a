package port

import "slices"

// content is what a channel has, of either kind.
type content interface {
	send(n int) bool // false: n is lost
	get() (int, bool)
	has() []int // memory of its own
	drain()
}

// sampling has the message that was sent last, if any.
type sampling struct {
	last int
	sent bool
}

// queue has at most so many messages as it is deep, the first one ahead.
type queue struct {
	depth int
	waits []int
}

// empty makes what a channel of that depth has at first.
func empty(depth int) content {
	if depth == 0 {
		return &sampling{}
	}
	return &queue{depth: depth}
}

func (s *sampling) send(n int) bool {
	s.last, s.sent = n, true
	return true
}

func (s *sampling) get() (int, bool) { return s.last, s.sent }

func (s *sampling) has() []int {
	if !s.sent {
		return nil
	}
	return []int{s.last}
}

// drain forgets the number, too, as get tells it beside a false.
func (s *sampling) drain() { s.last, s.sent = 0, false }

func (q *queue) send(n int) bool {
	if len(q.waits) == q.depth {
		return false
	}
	q.waits = append(q.waits, n)
	return true
}

// get lets the others move up, so that the same room serves for all that is ever sent.
func (q *queue) get() (int, bool) {
	if len(q.waits) == 0 {
		return 0, false
	}
	n := q.waits[0]
	q.waits = slices.Delete(q.waits, 0, 1)
	return n, true
}

func (q *queue) has() []int { return slices.Clone(q.waits) }

func (q *queue) drain() { q.waits = q.waits[:0] }
