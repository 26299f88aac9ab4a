package timer_test

import (
	"math/rand/v2"
	"testing"
)

// crowd is of whom a script speaks: names and ticks at random.
type crowd struct{ name, tick func(r *rand.Rand) int }

func below(n int) func(r *rand.Rand) int {
	return func(r *rand.Rand) int { return r.IntN(n) }
}

func about(n int) func(r *rand.Rand) int {
	return func(r *rand.Rand) int { return r.IntN(2*n+1) - n }
}

func anyOf(l []int) func(r *rand.Rand) int {
	return func(r *rand.Rand) int { return l[r.IntN(len(l))] }
}

func anyInt(r *rand.Rand) int { return int(r.Uint64()) }

// crowds are few names and many, close to each other and far apart, with few ticks and many.
func crowds() []crowd {
	return []crowd{
		{below(3), below(4)},
		{below(8), below(3)},
		{about(6), about(20)},
		{about(12), below(1)},
		{about(40), about(5)},
		{below(60), about(1000)},
		{anyOf(extremes), anyOf(extremes)},
		{anyOf(extremes), anyInt},
		{anyInt, about(30)},
	}
}

// Each script of four calls: of Set of each of three names to each of three ticks, of Stop of each name, of Due at each tick.
func TestEachShortScript(t *testing.T) {
	rows(4, 15, func(script []int) {
		p := begin(t, 0, 1, 2)
		for _, what := range script {
			switch n := what / 3 % 3; {
			case what < 9:
				p.set(what%3-1, n)
			case what < 12:
				p.stop(what%3 - 1)
			default:
				p.due(what % 3)
			}
		}
		p.drain()
	})
}

// Each script of six calls with two names and two ticks.
func TestEachScript(t *testing.T) {
	rows(6, 7, func(script []int) {
		p := begin(t, 1, 2)
		for _, what := range script {
			switch {
			case what < 4:
				p.set(what%2+1, what/2)
			case what < 6:
				p.stop(what%2 + 1)
			default:
				p.due(0)
			}
		}
	})
}

// Long scripts at random.
func TestScriptsAtRandom(t *testing.T) {
	for n, c := range crowds() {
		for seed := range 6 {
			r := rand.New(rand.NewPCG(uint64(n), uint64(seed)))
			p := begin(t)
			for range 10 {
				p.others = append(p.others, c.name(r))
			}
			for step := range 3000 {
				if step%50 == 0 {
					p.story = nil
				}
				p.step(r, func() int { return c.name(r) }, func() int { return c.tick(r) })
			}
			p.story = nil
			p.drain()
		}
	}
}

// Short ones at random, many of them, so that what happens when few or none are set happens often.
func TestShortScriptsAtRandom(t *testing.T) {
	for n, c := range crowds() {
		for seed := range 3000 {
			r := rand.New(rand.NewPCG(uint64(100+n), uint64(seed)))
			p := begin(t)
			for range 1 + r.IntN(14) {
				p.set(c.name(r), c.tick(r))
			}
			for range 6 {
				p.step(r, func() int { return c.name(r) }, func() int { return c.tick(r) })
			}
			p.drain()
		}
	}
}

// Timers as a loader has them: each is set anew again and again, to a tick that is later each time, and is due only if it was left alone.
func TestTimeouts(t *testing.T) {
	r := rand.New(rand.NewPCG(9, 9))
	p := begin(t, 0, 1, 2, 3)
	for now := range 5000 {
		if now%40 == 0 {
			p.story = nil
		}
		p.due(now)
		if r.IntN(3) == 0 {
			p.set(r.IntN(4), now+6)
		}
		if r.IntN(30) == 0 {
			p.stop(r.IntN(4))
		}
	}
}

// FuzzTimer: whatever the calls are, they answer what a plain list does.
func FuzzTimer(f *testing.F) {
	f.Add([]byte{0, 1, 5, 0, 2, 3, 2, 4, 0})
	f.Add([]byte{0, 1, 5, 0, 2, 3, 0, 1, 1, 1, 2, 0, 1, 2, 0, 2, 9, 0, 2, 9, 0})
	f.Add([]byte{0, 200, 7, 4, 100, 7, 0, 0, 250, 4, 255, 250, 6, 7, 0, 1, 0, 0})
	f.Fuzz(func(t *testing.T, b []byte) {
		p := begin(t, extremes...)
		number := func(x byte) int { // some are close to each other, some far apart
			if x >= 128 {
				return extremes[int(x)%len(extremes)]
			}
			return int(x)%16 - 4
		}
		for ; len(b) >= 3; b = b[3:] {
			switch b[0] % 4 {
			case 0, 3:
				p.set(number(b[1]), number(b[2]))
			case 1:
				p.stop(number(b[1]))
			default:
				p.due(number(b[1]))
			}
		}
		p.drain()
	})
}
