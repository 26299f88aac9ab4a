package vm_test

import (
	"math/rand/v2"
	"slices"
	"strconv"
	"testing"

	"longeron/api"
)

// moody are ports that answer by what they are asked, how often they were, and a seed; one call in refuse is refused.
func moody(seed uint64, refuse int) func(call, int) reply {
	return func(c call, ahead int) reply {
		mix := seed<<32 ^ uint64(c.part)<<28 ^ uint64(c.channel)<<24 ^ uint64(ahead)<<1
		if c.sends {
			mix++
		}
		r := rand.New(rand.NewPCG(mix, seed))
		if r.IntN(refuse) == 0 {
			return reply{n: r.IntN(65536), is: r.IntN(2) == 0, e: api.Errno(1 + r.IntN(20))}
		}
		if r.IntN(3) == 0 {
			return reply{}
		}
		if c.sends {
			return reply{is: true}
		}
		return reply{n: []int{r.IntN(3), r.IntN(65536), 65535 - r.IntN(3)}[r.IntN(3)], is: true}
	}
}

// imageAtRandom is a right one, but for its code.
func imageAtRandom(r *rand.Rand) api.Image {
	return api.Image{
		Part: r.IntN(4), Version: 1 + r.IntN(65535), Hard: r.IntN(65536), Mem: 1 + r.IntN(16), Fuel: 1 + r.IntN(32),
		Sends: r.IntN(16), Receives: r.IntN(16),
	}
}

// Code of bytes at random, of which most are instructions, and most arguments within.
func TestBytesAtRandom(t *testing.T) {
	for seed := range uint64(30000) {
		r := rand.New(rand.NewPCG(seed, 1))
		i := imageAtRandom(r)
		for range 1 + r.IntN(96) {
			b := byte(r.IntN([]int{4, 19, 19, 20, 97, 256}[r.IntN(6)]))
			i.Code = append(i.Code, b)
		}
		p := begin(t, i, moody(seed, 20))
		for range 12 {
			p.tick()
			if r.IntN(15) == 0 {
				p.reset()
			}
		}
	}
}

// Instructions at random, each of which goes well where no jump leads, so that the stack grows and shrinks for long.
func TestInstructionsAtRandom(t *testing.T) {
	for seed := range uint64(20000) {
		r := rand.New(rand.NewPCG(seed, 2))
		i := imageAtRandom(r)
		i.Sends, i.Receives = i.Sends|1, i.Receives|1
		high := 0
		for len(i.Code) < 95 {
			o := r.IntN(19)
			if o == api.OHalt || high < rows[o].needs || high-rows[o].needs+rows[o].lays > 8 {
				continue
			}
			high += rows[o].lays - rows[o].needs
			i.Code = append(i.Code, byte(o))
			switch o {
			case api.OPush:
				i.Code = append(i.Code, byte(r.IntN(256)))
			case api.OLoad, api.OStore:
				i.Code = append(i.Code, byte(r.IntN(i.Mem)))
			case api.OSend, api.OGet:
				i.Code = append(i.Code, 0)
			case api.OJump, api.OZero:
				i.Code = append(i.Code, byte(len(i.Code)+1))
			}
		}
		p := begin(t, i, moody(seed, 100))
		for range 20 {
			p.tick()
		}
	}
}

// piece is a text of instructions that leave the stack as high as it was.
func piece(r *rand.Rand, mem int) string {
	word := func() string { return strconv.Itoa(r.IntN(mem)) }
	channel := strconv.Itoa(r.IntN(4))
	reckon := []string{"add", "sub", "mul", "less", "same", "swap, sub", "swap, drop"}[r.IntN(7)]
	return []string{
		"load " + word() + ", load " + word() + ", " + reckon + ", store " + word(),
		"push " + strconv.Itoa(r.IntN(256)) + ", load " + word() + ", " + reckon + ", store " + word(),
		"now, store " + word(), "now, load " + word() + ", " + reckon + ", drop",
		"load " + word() + ", send " + channel, "load " + word() + ", dup, send " + channel + ", store " + word(),
		"get " + channel + ", drop, drop", "get " + channel + ", drop, store " + word(),
		"confirm", "yield", "push 7, drop",
	}[r.IntN(11)]
}

// Programs of pieces, between which jumps lead to and fro, so that they run for long.
func TestLongPrograms(t *testing.T) {
	for seed := range uint64(600) {
		r := rand.New(rand.NewPCG(seed, 3))
		i := imageAtRandom(r)
		i.Sends, i.Receives = 15, 15
		starts := []int{0}
		for len(i.Code) < 80 {
			i.Code = append(i.Code, code(piece(r, i.Mem))...)
			starts = append(starts, len(i.Code))
			if r.IntN(3) == 0 {
				i.Code = append(i.Code, code("load "+strconv.Itoa(r.IntN(i.Mem))+", zero "+strconv.Itoa(starts[r.IntN(len(starts))]))...)
				starts = append(starts, len(i.Code))
			}
		}
		i.Code = append(i.Code, code("jump "+strconv.Itoa(starts[r.IntN(1+len(starts)/2)]))...)
		says := moody(seed, 1000)
		p := begin(t, i, func(c call, ahead int) reply { // get lays one number less where there is no message, so there is always one
			answer := says(c, ahead%5000)
			answer.is = answer.is || !c.sends
			return answer
		})
		for n := range 300 {
			p.hers.calls, p.my.calls = nil, nil
			p.tick()
			if n == 150 && seed%2 == 0 {
				p.reset()
			}
		}
	}
}

// some are instructions of each kind that do well, and of each that don't.
var some = []string{
	"yield", "push 0", "push 2", "drop", "dup", "swap", "add", "sub", "mul", "less", "same", "load 0", "load 1", "store 0", "store 1",
	"jump 1", "zero 3", "zero 0", "send 0", "send 1", "get 0", "get 1", "confirm", "halt", "now", "19",
}

// Each row of three of them, behind no numbers and behind seven, with fuel for all and with fuel for two.
func TestEachRowOfThree(t *testing.T) {
	for _, a := range some {
		for _, b := range some {
			for _, c := range some {
				for _, high := range []int{0, 7} {
					text := filled(high) + a + ", " + b + ", " + c + ", yield, push 4"
					i := imaged(1, 2, 1, 1, text)
					p := begin(t, i, tells(5))
					p.ticks(7)
					i.Fuel = 32
					p = begin(t, i, tells(5))
					p.ticks(3)
				}
			}
		}
	}
}

// Each row of four, of fewer.
func TestEachRowOfFour(t *testing.T) {
	few := []string{"yield", "push 3", "drop", "dup", "sub", "load 0", "store 0", "zero 0", "send 0", "get 0", "confirm", "now"}
	for n := range len(few) * len(few) * len(few) * len(few) {
		text := "push 1"
		for range 4 {
			text += ", " + few[n%len(few)]
			n /= len(few)
		}
		p := begin(t, imaged(2, 4, 1, 1, text+", jump 2"), tells(5, 0))
		p.ticks(4)
	}
}

// Each instruction, with each argument, at each of some states.
func TestEachAtEachState(t *testing.T) {
	for o, r := range rows {
		for arg := range 256 {
			if !r.has && arg > 0 {
				break
			}
			text := r.name
			if r.has {
				text += " " + strconv.Itoa(arg)
			}
			for high := range 9 {
				for _, mem := range []int{1, 2, 16} {
					for _, ports := range []int{0, 1, 6, 15} {
						i := imaged(mem, high+1, ports, 15-ports, filled(high)+text+", yield, now")
						p := begin(t, i, moody(uint64(o*high+arg), 3))
						p.ticks(2)
					}
				}
			}
		}
	}
}

// FuzzMachine: whatever the program is, and whatever the ports tell, it runs as the chapter's words have it.
func FuzzMachine(f *testing.F) {
	f.Add(code("push 2, push 3, add, send 0, yield"), uint64(1), uint64(2))
	f.Add(code("get 1, zero 6, store 0, yield, jump 0, confirm, halt"), uint64(3), uint64(4))
	f.Add(code("now, dup, mul, load 1, less, zero 0, jump 2"), uint64(5), uint64(6))
	f.Fuzz(func(t *testing.T, program []byte, seed, mood uint64) {
		i := imageAtRandom(rand.New(rand.NewPCG(seed, 9)))
		i.Code = slices.Clone(program[:min(len(program), 96)])
		if len(i.Code) == 0 {
			return
		}
		p := begin(t, i, moody(mood, 50))
		p.ticks(10)
		p.reset()
		p.ticks(10)
	})
}
