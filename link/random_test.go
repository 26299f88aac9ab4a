package link_test

import (
	"math/rand/v2"
	"testing"
)

// Each script of five calls on one way: sent with bytes and without, taken, lost, doubled, turned about and spoilt, at each of the first two numbers; and what is there behind it.
func TestEachShortScript(t *testing.T) {
	rows(5, 10, func(script []int) {
		p := begin(t)
		for n, what := range script {
			switch what {
			case 0:
				p.send(0, frame(0, n))
			case 1:
				p.send(0, "")
			case 2:
				p.take(0)
			case 3, 4:
				p.lose(0, what-3)
			case 5, 6:
				p.twice(0, what-5)
			case 7:
				p.swap(0, 0, 1)
			default:
				p.spoil(0, what-8, 0, 3)
			}
		}
		p.drain()
	})
}

// Each script of four calls behind three frames, of which the numbers are 0 to 2.
func TestEachScriptOfThree(t *testing.T) {
	rows(4, 14, func(script []int) {
		p := filled(t, 3, 1)
		for n, what := range script {
			switch {
			case what == 0:
				p.send(0, frame(1, n))
			case what == 1:
				p.take(0)
			case what < 5:
				p.lose(0, what-2)
			case what < 8:
				p.twice(0, what-5)
			case what < 11:
				p.swap(0, what-8, (what-7)%3)
			default:
				p.spoil(0, what-11, 0, 200)
			}
		}
		p.drain()
	})
}

// Each script of four calls on both ways.
func TestEachScriptOfBothWays(t *testing.T) {
	rows(4, 12, func(script []int) {
		p := filled(t, 1, 2)
		for n, what := range script {
			way := what % 2
			switch what / 2 {
			case 0:
				p.send(way, frame(way, n))
			case 1:
				p.take(way)
			case 2:
				p.lose(way, 1)
			case 3:
				p.twice(way, 0)
			case 4:
				p.swap(way, 1, 0)
			default:
				p.spoil(way, 0, 0, -2)
			}
		}
		p.drain()
	})
}

// Long scripts at random: with ways that are empty most often, that are full most often, and such as go from the one to the other.
func TestScriptsAtRandom(t *testing.T) {
	for puts := 3; puts <= 6; puts++ {
		for seed := range 8 {
			r := rand.New(rand.NewPCG(uint64(puts), uint64(seed)))
			p := begin(t)
			for step := range 4000 {
				if step%60 == 0 {
					p.story = nil
				}
				p.step(r, puts)
			}
			p.story = nil
			p.drain()
		}
	}
	for seed := range 8 {
		r := rand.New(rand.NewPCG(77, uint64(seed)))
		p := begin(t)
		for step := range 6000 {
			if step%60 == 0 {
				p.story = nil
			}
			p.step(r, 2+4*(step/300%2))
		}
		p.story = nil
		p.drain()
	}
}

// Short ones at random, many of them, so that what happens with few frames happens often.
func TestShortScriptsAtRandom(t *testing.T) {
	for seed := range 8000 {
		r := rand.New(rand.NewPCG(88, uint64(seed)))
		p := filled(t, r.IntN(5), r.IntN(4))
		for range 12 {
			p.step(r, 4)
		}
		p.drain()
	}
}

// FuzzLink: whatever the calls are, they answer what the chapter's words have it.
func FuzzLink(f *testing.F) {
	f.Add([]byte{0, 0, 2, 1, 0, 0, 3, 1, 4, 0, 1, 0, 8, 0, 0, 0})
	f.Add([]byte{0, 1, 5, 9, 3, 1, 0, 0, 5, 1, 1, 2, 5, 1, 0, 4, 1, 1, 0, 0})
	f.Add([]byte{6, 0, 31, 0, 3, 0, 1, 0, 2, 0, 30, 0, 3, 0, 9, 0, 0, 0, 3, 3, 1, 0, 0, 0, 3, 0, 1, 0})
	f.Fuzz(func(t *testing.T, b []byte) {
		p := begin(t)
		number := func(x byte) int { // some are close to each other, some far off
			if x >= 200 {
				return far[int(x)%len(far)]
			}
			return int(x)%36 - 2
		}
		for ; len(b) >= 4; b = b[4:] {
			way := int(b[1]) % 2
			if b[1] >= 230 {
				way = noWays[int(b[1])%len(noWays)]
			}
			i, k := number(b[2]), number(b[3])
			switch b[0] % 8 {
			case 0, 7:
				p.send(way, frame(int(b[2]), int(b[3])))
			case 1:
				p.take(way)
			case 2:
				p.lose(way, i)
			case 3:
				p.twice(way, i)
			case 4:
				p.swap(way, i, k)
			case 5:
				p.spoil(way, i, int(b[3])%8-1, 37*int(b[3]))
			default:
				p.fill(int(b[1])%2, int(b[2])%34)
			}
		}
		p.drain()
	})
}
