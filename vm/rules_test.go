package vm_test

import (
	"math/rand/v2"
	"slices"
	"testing"

	"longeron/api"
	"longeron/vm"
)

// programs run for some ticks, and then go on for ever, fail, or do so at once.
func programs() []api.Image {
	return []api.Image{
		imaged(16, 32, 15, 15, "get 0, drop, dup, store 15, send 3, load 15, push 3, mul, store 2, now, confirm, drop, yield, jump 0"),
		imaged(4, 3, 1, 2, "push 1, push 2, push 3, yield, add, store 1, drop, get 1, drop, send 0, jump 0"),
		imaged(2, 5, 15, 15, "load 1, push 1, add, dup, store 1, push 30, same, zero 0, halt"),
		imaged(3, 7, 2, 0, "push 5, send 1, push 6, send 1, confirm, now, store 2, load 2, push 2, less, zero 19, jump 0, push 1, swap"),
		imaged(1, 1, 0, 0, "jump 0"),
		imaged(1, 1, 0, 0, "push 250, jump 0"),
		imaged(9, 9, 0, 0, "halt"),
	}
}

// Reset behind each number of ticks, in the midst of what the program does, and behind its failure: it is as New made it, and goes on likewise.
func TestReset(t *testing.T) {
	for n, i := range programs() {
		for many := range 40 {
			p := begin(t, i, moody(uint64(n), 200))
			p.ticks(many)
			p.reset()
			if s := p.machine.State(); !sameState(s, api.State{Mem: make([]int, i.Mem)}) {
				t.Errorf("%v, %d ticks: %+v", i, many, s)
			}
			p.reset()
			p.ticks(3)
			p.reset()
			p.ticks(many)
		}
	}
}

// Behind a Reset and one that wasn't, the same ports leave the same.
func TestResetIsNew(t *testing.T) {
	for n, i := range programs() {
		for many := range 30 {
			one := begin(t, i, moody(uint64(n), 90))
			one.ticks(many)
			one.reset()
			one.hers.calls, one.my.calls = nil, nil
			other := begin(t, i, moody(uint64(n), 90))
			for range 20 {
				if a, b := one.tick(), other.tick(); !sameOut(a, b) {
					t.Fatalf("%v: %+v, %+v", i, a, b)
				}
				if a, b := one.machine.State(), other.machine.State(); !sameState(a, b) {
					t.Fatalf("%v: %+v, %+v", i, a, b)
				}
			}
		}
	}
}

// What a program laid ahead of a Reset is nowhere behind it: not on the stack, not in memory.
func TestResetForgets(t *testing.T) {
	p := begun(t, "load 0, load 15, zero 7, halt, yield, push 99, store 0, push 98, store 15, push 97, push 96, push 95, drop, drop, halt")
	for range 3 {
		p.ticks(2)
		if s := p.machine.State(); s.Mem[0] != 99 || s.Mem[15] != 98 || !slices.Equal(s.Stack, []int{0, 97}) || s.Fault != api.ErrState {
			t.Errorf("%+v", s)
		}
		p.reset()
		p.ticks(1)
		p.is(8, api.OK, 0)
		p.reset()
	}
}

// State and Image change nothing, however often they are asked.
func TestAskedOften(t *testing.T) {
	for _, i := range programs() {
		p := begin(t, i, tells(4, 5, 6))
		for range 20 {
			for range 5 {
				p.judge()
			}
			p.tick()
		}
	}
}

// R4: the image that is handed in may change behind New, spare room included, and stays as it is while the machine runs.
func TestImageMayChange(t *testing.T) {
	for n, i := range programs() {
		room := append(slices.Clone(i.Code), 77, 78, 79)
		handed := i
		handed.Code = room[:len(i.Code)]
		p := begin(t, handed, moody(uint64(n), 90))
		p.ticks(3)
		if !slices.Equal(room[:len(i.Code)], i.Code) || !slices.Equal(room[len(i.Code):], []byte{77, 78, 79}) {
			t.Errorf("%v, was %v", room, i.Code)
		}
		for at := range room {
			room[at] = api.OHalt
		}
		handed.Mem, handed.Fuel, handed.Sends = 99, 99, 99
		p.ticks(30)
		p.reset()
		p.ticks(30)
	}
}

// R4: New refuses an image, and leaves it as it is.
func TestRefusedImageStays(t *testing.T) {
	i := imaged(4, 4, 16, 0, "push 1, yield")
	room := append(slices.Clone(i.Code), 77)
	i.Code = room[:3]
	if m, e := vm.New(i); m != nil || e != api.ErrRange {
		t.Errorf("%v, %v", m, e)
	}
	if !slices.Equal(room, []byte{1, 1, 0, 77}) {
		t.Errorf("%v", room)
	}
}

// R4: what State, Image and Tick told stays as it was when the machine goes on.
func TestAnswersStay(t *testing.T) {
	for n, i := range programs() {
		p := begin(t, i, moody(uint64(n), 300))
		var states, wasStates []api.State
		var outs, wasOuts []vm.Out
		var images []api.Image
		for round := range 60 {
			out := p.tick()
			s := p.machine.State()
			outs, wasOuts = append(outs, out), append(wasOuts, vm.Out{Sent: slices.Clone(out.Sent), Confirm: out.Confirm})
			states, wasStates = append(states, s), append(wasStates, copyState(s))
			images = append(images, p.machine.Image())
			if round == 40 {
				p.reset()
			}
		}
		for round := range states {
			if !sameState(states[round], wasStates[round]) || !sameOut(outs[round], wasOuts[round]) || !sameImage(images[round], i) {
				t.Errorf("%v: %+v, %+v, %v", i, states[round], outs[round], images[round])
			}
		}
	}
}

// wipe writes over a list, spare room included.
func wipe[T any](l []T, with T) {
	l = l[:cap(l)]
	for n := range l {
		l[n] = with
	}
}

// R4: what State, Image and Tick told may be written over, spare room included, and the machine, and what was told beside, stay as they were.
func TestAnswersAreNew(t *testing.T) {
	for n, i := range programs() {
		p := begin(t, i, moody(uint64(n), 300))
		var earlier []api.Sent
		for round := range 60 {
			out := p.tick()
			was := slices.Clone(out.Sent)
			wipe(earlier, api.Sent{Channel: -77, N: -77})
			if !slices.Equal(out.Sent, was) {
				t.Errorf("%v: %v, was %v", i, out.Sent, was)
			}
			earlier = out.Sent
			a, b := p.machine.State(), p.machine.State()
			wipe(a.Stack, -77)
			if !sameState(b, p.model.state) || !slices.Equal(a.Mem, p.model.state.Mem) {
				t.Errorf("%v: %+v, %+v, want %+v", i, a, b, p.model.state)
			}
			wipe(a.Mem, -77)
			if !sameState(b, p.model.state) {
				t.Errorf("%v: %+v, want %+v", i, b, p.model.state)
			}
			wipe(b.Mem, -78)
			if !slices.Equal(b.Stack, p.model.state.Stack) {
				t.Errorf("%v: %+v, want %+v", i, b, p.model.state)
			}
			wipe(b.Stack, -78)
			c, d := p.machine.Image(), p.machine.Image()
			wipe(c.Code, 77)
			if !sameImage(d, i) {
				t.Errorf("%v, want %v", d, i)
			}
			wipe(d.Code, 78)
			p.judge()
			if round == 30 {
				p.reset()
			}
		}
	}
}

// R4: what a tick sent may be written over ahead of the next tick, in which other numbers are sent.
func TestSentIsNew(t *testing.T) {
	p := begun(t, "now, dup, send 0, send 1, yield, jump 0")
	var last []api.Sent
	for n := range 50 {
		out := p.tick()
		want := []api.Sent{{Channel: 0, N: n}, {Channel: 1, N: n}}
		if n > 0 && !slices.Equal(last, []api.Sent{{Channel: 0, N: n - 1}, {Channel: 1, N: n - 1}}) {
			t.Errorf("%v", last)
		}
		wipe(last, api.Sent{Channel: 9, N: 9})
		if !slices.Equal(out.Sent, want) {
			t.Errorf("%v, want %v", out.Sent, want)
		}
		last = out.Sent
	}
}

// R5: two machines of one image have nothing to do with each other.
func TestTwoMachines(t *testing.T) {
	for n, i := range programs() {
		r := rand.New(rand.NewPCG(uint64(n), 4))
		p, q := begin(t, i, moody(1, 500)), begin(t, i, moody(2, 500))
		for range 200 {
			one, other := p, q
			if r.IntN(2) == 0 {
				one, other = q, p
			}
			if r.IntN(20) == 0 {
				one.reset()
			}
			one.tick()
			other.judge()
		}
		again := begin(t, i, nil)
		again.ticks(1)
		p.judge()
		q.judge()
	}
}

// R5: the same calls on a new machine answer the same again, whatever was done meanwhile.
func TestSameAgain(t *testing.T) {
	for n, i := range programs() {
		var states []api.State
		var outs []vm.Out
		for round := range 4 {
			p := begin(t, i, moody(uint64(n), 100))
			for k := range 50 {
				out := p.tick()
				s := p.machine.State()
				if round == 0 {
					states, outs = append(states, s), append(outs, out)
				}
				if !sameState(s, states[k]) || !sameOut(out, outs[k]) {
					t.Fatalf("%v, round %d, tick %d: %+v, %+v", i, round, k, s, out)
				}
			}
			for k := range 5 {
				begin(t, programs()[k], moody(uint64(round), 10)).ticks(k)
			}
		}
	}
}

// A machine may be handed other ports in each tick.
func TestOtherPorts(t *testing.T) {
	m, _ := vm.New(imaged(1, 9, 1, 1, "get 0, drop, send 0, yield, jump 0"))
	for n := range 20 {
		p := &post{says: tells(n)}
		if out := m.Tick(p); !sameOut(out, brought(false, [2]int{0, n})) || len(p.calls) != 2 {
			t.Errorf("%d: %+v, %v", n, out, p.calls)
		}
	}
}

// Of a nil Machine.
func TestNil(t *testing.T) {
	var m *vm.Machine
	p := &post{}
	for range 3 {
		for _, ports := range []vm.Ports{nil, p} {
			if out := m.Tick(ports); !sameOut(out, vm.Out{}) {
				t.Errorf("%+v", out)
			}
		}
		if s := m.State(); !sameState(s, api.State{Fault: api.ErrNil}) {
			t.Errorf("%+v", s)
		}
		if i := m.Image(); !sameImage(i, api.Image{}) {
			t.Errorf("%v", i)
		}
		m.Reset()
	}
	if len(p.calls) != 0 {
		t.Errorf("%v", p.calls)
	}
}
