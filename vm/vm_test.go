package vm_test

import (
	"math"
	"slices"
	"strconv"
	"testing"

	"longeron/api"
	"longeron/port"
	"longeron/vm"
)

// numbers are the least and the greatest ones, and such in between of which a bit might be lost.
var numbers = []int{0, 1, 2, 3, 127, 128, 255, 256, 257, 4095, 32767, 32768, 32769, 65279, 65280, 65534, 65535}

// far are numbers beyond all that an image's fields may be, and such of which fewer bits would be within.
var far = []int{
	math.MinInt, math.MinInt + 1, -1 << 32, -1<<32 + 1, -1<<32 + 2, -65536, -65535, -256, -255, -2, -1,
	65536, 65537, 65538, 1 << 31, 1 << 32, 1<<32 + 1, 1<<32 + 2, 1 << 62, math.MaxInt - 1, math.MaxInt,
}

// begun are the pair of a program, which may do what there is to do, and whose ports tell these messages.
func begun(t *testing.T, text string, messages ...int) *pair {
	t.Helper()
	return begin(t, imaged(16, 32, 15, 15, text), tells(messages...))
}

// is says whether the machine stands just there.
func (p *pair) is(pc int, fault api.Errno, stack ...int) {
	p.t.Helper()
	if s := p.machine.State(); s.PC != pc || s.Fault != fault || !slices.Equal(s.Stack, stack) {
		p.t.Errorf("image %v: PC %d, fault %v, stack %v; want %d, %v, %v", p.model.image, s.PC, s.Fault, s.Stack, pc, fault, stack)
	}
}

// filled is a text that lays these numbers, of which the last one may be no more than 255.
func filled(many int) string {
	text := ""
	for n := range many {
		text += "push " + strconv.Itoa(10+n) + ", "
	}
	return text
}

// lain are the numbers that filled lays.
func lain(many int) []int {
	var l []int
	for n := range many {
		l = append(l, 10+n)
	}
	return l
}

// P17.1: ordinary.

// The chapter's example.
func TestExample(t *testing.T) {
	i := api.Image{Part: 0, Version: 1, Mem: 1, Fuel: 9, Sends: 1, Code: []byte{1, 2, 1, 3, 5, 14, 0, 0}}
	p := begin(t, i, tells())
	if out := p.tick(); !sameOut(out, brought(false, [2]int{0, 5})) {
		t.Errorf("%+v", out)
	}
	p.is(8, api.OK)
	if want := []call{{true, 0, 0, 5}}; !slices.Equal(p.hers.calls, want) {
		t.Errorf("%v, want %v", p.hers.calls, want)
	}
}

// A machine that was just made.
func TestNew(t *testing.T) {
	for mem := 1; mem <= 16; mem++ {
		m, e := vm.New(imaged(mem, 3, 1, 2, "halt"))
		if e != api.OK {
			t.Fatal(e)
		}
		if s := m.State(); !sameState(s, api.State{Mem: make([]int, mem)}) {
			t.Errorf("%+v", s)
		}
		if i := m.Image(); !sameImage(i, imaged(mem, 3, 1, 2, "halt")) {
			t.Errorf("%v", i)
		}
	}
}

// Each instruction, and what it does, by hand.
func TestEachInstruction(t *testing.T) {
	for _, c := range []struct {
		text  string
		pc    int
		stack []int
	}{
		{"push 5, yield", 3, []int{5}},
		{"push 0, push 255, yield", 5, []int{0, 255}},
		{"push 5, push 6, drop, yield", 6, []int{5}},
		{"push 5, push 6, dup, yield", 6, []int{5, 6, 6}},
		{"push 5, push 6, push 7, swap, yield", 8, []int{5, 7, 6}},
		{"push 9, push 5, push 6, add, yield", 8, []int{9, 11}},
		{"push 9, push 6, push 5, sub, yield", 8, []int{9, 1}},
		{"push 9, push 5, push 6, sub, yield", 8, []int{9, 65535}},
		{"push 9, push 5, push 6, mul, yield", 8, []int{9, 30}},
		{"push 9, push 5, push 6, less, yield", 8, []int{9, 1}},
		{"push 9, push 6, push 5, less, yield", 8, []int{9, 0}},
		{"push 9, push 5, push 5, less, yield", 8, []int{9, 0}},
		{"push 9, push 5, push 6, same, yield", 8, []int{9, 0}},
		{"push 9, push 5, push 5, same, yield", 8, []int{9, 1}},
		{"push 5, store 3, load 2, load 3, yield", 9, []int{0, 5}},
		{"jump 3, halt, push 7, yield", 6, []int{7}},
		{"push 0, zero 5, halt, push 7, yield", 8, []int{7}},
		{"push 9, push 1, zero 8, push 7, yield, halt", 9, []int{9, 7}},
		{"push 9, push 8, send 3, yield", 7, []int{9}},
		{"get 3, yield", 3, []int{40, 1}},
		{"get 3, get 3, yield", 5, []int{40, 1, 0}},
		{"confirm, yield", 2, nil},
		{"now, yield", 2, []int{0}},
		{"yield", 1, nil},
	} {
		p := begun(t, c.text, 40)
		p.tick()
		p.is(c.pc, api.OK, c.stack...)
	}
	p := begun(t, "push 3, halt, yield")
	p.tick()
	p.is(2, api.ErrState, 3)
}

// A loop that counts in memory, by jump, as far as the fuel goes; the next tick goes on where it ended.
func TestLoopByJump(t *testing.T) {
	p := begin(t, imaged(2, 10, 0, 0, "load 1, push 1, add, store 1, jump 0"), nil)
	for n := 1; n <= 500; n++ {
		if s := p.ticks(1); s.Mem[1] != 2*n || s.PC != 0 || s.Ticks != n || len(s.Stack) != 0 {
			t.Fatalf("%d: %+v", n, s)
		}
	}
}

// A loop that counts down from 5, till zero leads out of it.
func TestLoopByZero(t *testing.T) {
	p := begin(t, imaged(1, 32, 1, 0, "push 5, dup, send 0, push 1, sub, dup, zero 13, jump 2, yield"), tells())
	var all []api.Sent
	for range 2 {
		all = append(all, p.tick().Sent...)
	}
	if want := []api.Sent{{N: 5}, {N: 4}, {N: 3}, {N: 2}, {N: 1}}; !slices.Equal(all, want) {
		t.Errorf("%v, want %v", all, want)
	}
	p.is(14, api.OK, 0)
}

// A program that hands on what it gets, confirms once, and halts when there is nothing more.
func TestSendsWhatItGets(t *testing.T) {
	p := begin(t, imaged(1, 6, 2, 4, "get 2, zero 9, send 1, yield, jump 0, confirm, halt"), tells(9, 0, 65535))
	for _, want := range []vm.Out{
		brought(false, [2]int{1, 9}), brought(false, [2]int{1, 0}), brought(false, [2]int{1, 65535}), {Confirm: true}, {},
	} {
		if out := p.tick(); !sameOut(out, want) {
			t.Errorf("%+v, want %+v", out, want)
		}
	}
	p.is(10, api.ErrState)
}

// P17.1: New.

// Images that aren't right, in each field.
func TestImageThatIsNotRight(t *testing.T) {
	fields := []struct {
		name        string
		at          func(*api.Image) *int
		least, most int
	}{
		{"Part", func(i *api.Image) *int { return &i.Part }, 0, 3},
		{"Version", func(i *api.Image) *int { return &i.Version }, 1, 65535},
		{"Hard", func(i *api.Image) *int { return &i.Hard }, 0, 65535},
		{"Mem", func(i *api.Image) *int { return &i.Mem }, 1, 16},
		{"Fuel", func(i *api.Image) *int { return &i.Fuel }, 1, 32},
		{"Sends", func(i *api.Image) *int { return &i.Sends }, 0, 15},
		{"Receives", func(i *api.Image) *int { return &i.Receives }, 0, 15},
	}
	for _, f := range fields {
		for _, n := range append([]int{f.least - 1, f.least, f.least + 1, f.most - 1, f.most, f.most + 1, f.most + 256}, far...) {
			i := imaged(4, 5, 6, 7, "push 1, yield")
			*f.at(&i) = n
			m, e := vm.New(i)
			if n < f.least || n > f.most {
				if m != nil || e != api.ErrRange {
					t.Errorf("%s %d: %v, %v", f.name, n, m, e)
				}
				continue
			}
			p := begin(t, i, tells())
			p.ticks(2)
		}
	}
	for _, long := range []int{0, 97, 98, 255, 256, 257, 1000} {
		i := imaged(4, 5, 6, 7, "")
		i.Code = make([]byte, long)
		if m, e := vm.New(i); m != nil || e != api.ErrRange {
			t.Errorf("code of %d: %v, %v", long, m, e)
		}
	}
	if m, e := vm.New(api.Image{}); m != nil || e != api.ErrRange {
		t.Errorf("%v, %v", m, e)
	}
}

// Images of each Part, Version and Hard run alike; ports hear of the Part.
func TestImagesThatAreRight(t *testing.T) {
	for part := range 4 {
		for _, version := range []int{1, 2, 255, 256, 65535} {
			for _, hard := range []int{0, 1, 65535} {
				i := api.Image{Part: part, Version: version, Hard: hard, Mem: 1, Fuel: 5, Sends: 1, Receives: 2, Code: code("get 1, send 0, send 0, yield")}
				p := begin(t, i, tells(77))
				p.tick()
				p.is(7, api.OK)
				if want := []call{{false, part, 1, 0}, {true, part, 0, 1}, {true, part, 0, 77}}; !slices.Equal(p.hers.calls, want) {
					t.Errorf("%v, want %v", p.hers.calls, want)
				}
			}
		}
	}
}

// Code of each length, of instructions of one byte, and of two.
func TestCodeOfEachLength(t *testing.T) {
	for long := 1; long <= 96; long++ {
		i := imaged(1, 32, 0, 0, "")
		i.Code = slices.Repeat([]byte{api.OConfirm}, long)
		p := begin(t, i, nil)
		p.ticks(5)
		p.is(long, api.ErrOp)
		if s := p.machine.State(); s.Ticks != long/32+1 {
			t.Errorf("%d: %+v", long, s)
		}
		i.Code = slices.Repeat([]byte{api.OJump}, long)
		for at := range i.Code {
			if at%2 == 1 {
				i.Code[at] = byte(at + 1)
			}
		}
		p = begin(t, i, nil)
		p.ticks(5)
		if long%2 == 1 {
			p.is(long-1, api.ErrOp)
		} else {
			p.is(long-2, api.ErrRange)
		}
	}
}

// P17.1: numbers.

// Sums, differences, products, and how numbers are held against each other, of each two of these.
func TestReckoning(t *testing.T) {
	for _, a := range numbers {
		for _, b := range numbers {
			less, same := 0, 0
			if a < b {
				less = 1
			}
			if a == b {
				same = 1
			}
			for name, want := range map[string]int{
				"add": int(uint16(a) + uint16(b)), "sub": int(uint16(a) - uint16(b)), "mul": int(uint16(a) * uint16(b)),
				"less": less, "same": same,
			} {
				p := begun(t, "push 99, get 0, drop, get 0, drop, "+name+", yield", a, b)
				p.tick()
				p.is(10, api.OK, 99, want)
			}
		}
	}
}

func TestReckoningByHand(t *testing.T) {
	for _, c := range []struct {
		a    int
		b    int
		name string
		want int
	}{
		{65535, 1, "add", 0}, {65535, 2, "add", 1}, {65535, 65535, "add", 65534}, {65534, 1, "add", 65535}, {0, 0, "add", 0},
		{0, 1, "sub", 65535}, {0, 65535, "sub", 1}, {1, 65535, "sub", 2}, {65535, 65535, "sub", 0}, {1, 1, "sub", 0}, {65535, 65534, "sub", 1},
		{65535, 65535, "mul", 1}, {256, 256, "mul", 0}, {65535, 2, "mul", 65534}, {65534, 65534, "mul", 4}, {65535, 0, "mul", 0}, {32768, 2, "mul", 0},
		{0, 65535, "less", 1}, {65535, 0, "less", 0}, {65535, 65535, "less", 0}, {32767, 32768, "less", 1}, {32768, 32767, "less", 0},
		{0, 65535, "same", 0}, {65535, 65535, "same", 1}, {0, 0, "same", 1}, {255, 65535, "same", 0}, {1, 257, "same", 0},
	} {
		p := begun(t, "get 0, drop, get 0, drop, "+c.name+", yield", c.a, c.b)
		p.tick()
		p.is(8, api.OK, c.want)
	}
}

// What is reckoned goes on being reckoned with, and leaves 65535 behind it many times.
func TestReckoningGoesOn(t *testing.T) {
	p := begun(t, "push 3, load 0, push 251, mul, sub, dup, load 1, add, store 1, store 0, yield, jump 0")
	last, sum := uint16(0), uint16(0)
	for n := range 1000 {
		last = 3 - last*251
		sum += last
		if s := p.ticks(1); s.Mem[0] != int(last) || s.Mem[1] != int(sum) {
			t.Fatalf("%d: %+v, want %d, %d", n, s, last, sum)
		}
	}
}

// P17.1: memory.

// Each word of each memory is its own; beyond them there is none.
func TestMemory(t *testing.T) {
	for mem := 1; mem <= 16; mem++ {
		for w := range 256 {
			arg := strconv.Itoa(w)
			p := begin(t, imaged(mem, 32, 0, 1, "get 0, drop, store "+arg+", load "+arg+", yield"), tells(40000+w))
			p.tick()
			want := make([]int, mem)
			if w < mem {
				want[w] = 40000 + w
				p.is(8, api.OK, 40000+w)
			} else {
				p.is(3, api.ErrRange, 40000+w)
			}
			if s := p.machine.State(); !slices.Equal(s.Mem, want) {
				t.Errorf("Mem %d, store %d: %v", mem, w, s.Mem)
			}
			p = begin(t, imaged(mem, 32, 0, 0, "load "+arg+", yield"), nil)
			p.tick()
			if w < mem {
				p.is(3, api.OK, 0)
			} else {
				p.is(0, api.ErrRange)
			}
		}
	}
}

// All words of a memory, written and read.
func TestAllWords(t *testing.T) {
	text := ""
	for w := range 16 {
		text += "get 0, drop, store " + strconv.Itoa(w) + ", "
	}
	var messages []int
	for w := range 16 {
		messages = append(messages, 65535-w)
	}
	p := begun(t, text+"yield", messages...)
	if s := p.ticks(3); !slices.Equal(s.Mem, messages) {
		t.Errorf("%v, want %v", s.Mem, messages)
	}
}

// P17.1: where it goes on.

// jump and zero to each place of codes of several lengths, and beyond; zero of what is 0, and of what isn't, fails alike where there is no such place.
func TestPlaces(t *testing.T) {
	for _, long := range []int{3, 4, 5, 6, 7, 50, 95, 96} {
		for at := range 256 {
			there := at < long
			i := imaged(1, 1, 0, 0, "")
			i.Code = slices.Repeat([]byte{api.OYield}, long)
			i.Code[0], i.Code[1] = api.OJump, byte(at)
			p := begin(t, i, nil)
			p.tick()
			if there {
				p.is(at, api.OK)
			} else {
				p.is(0, api.ErrRange)
			}
			if long < 4 {
				continue
			}
			for _, top := range []int{0, 1, 255} {
				i.Fuel = 2
				copy(i.Code, []byte{api.OPush, byte(top), api.OZero, byte(at)})
				p := begin(t, i, nil)
				p.tick()
				switch {
				case !there:
					p.is(2, api.ErrRange, top)
				case top == 0:
					p.is(at, api.OK)
				default:
					p.is(4, api.OK)
				}
			}
		}
	}
}

// The only place of code of one byte is that one; code of two bytes may go on in its own midst.
func TestPlacesOfShortCode(t *testing.T) {
	i := imaged(1, 3, 0, 0, "jump 0")
	p := begin(t, i, nil)
	p.ticks(9)
	p.is(0, api.OK)
	i.Code = code("jump 1")
	p = begin(t, i, nil)
	p.ticks(9)
	p.is(1, api.ErrOp) // 1 is push, without a number
	i.Code = code("jump 2")
	p = begin(t, i, nil)
	p.ticks(9)
	p.is(0, api.ErrRange)
}

// zero of numbers of which only some bits are 0.
func TestZeroOfEachNumber(t *testing.T) {
	for _, n := range append([]int{512, 1024, 4096, 49152}, numbers...) {
		p := begun(t, "get 0, drop, zero 6, yield, 99", n)
		p.tick()
		if n == 0 {
			p.is(6, api.ErrOp)
			continue
		}
		p.is(6, api.OK)
	}
	p := begun(t, "get 0, drop, zero 6, yield, yield", 0)
	p.tick()
	p.is(7, api.OK)
}

// Into the midst of an instruction of two bytes: its number is what is done.
func TestMidst(t *testing.T) {
	for o := range 256 {
		p := begun(t, "push 10, push 20, jump 7, push "+strconv.Itoa(o)+", 3, 0, 0")
		p.ticks(1)
		s := p.machine.State()
		switch {
		case o > 18 && (s.PC != 7 || s.Fault != api.ErrOp):
			t.Errorf("%d: %+v", o, s)
		case o == api.OAdd:
			p.is(10, api.OK, 30, 30) // 3 is dup
		case o == api.OPush:
			p.is(10, api.OK, 10, 20, 3)
		}
	}
	p := begun(t, "push 0, zero 5, push 5, yield, yield")
	p.tick()
	p.is(5, api.ErrNone) // 5 is add
}

// Code that ends within an instruction, runs over its end, or has a byte that is no instruction.
func TestNoInstruction(t *testing.T) {
	for o, r := range rows {
		if r.has {
			for many := range 5 {
				i := imaged(1, 32, 15, 15, "")
				i.Code = append(slices.Repeat([]byte{api.OConfirm}, many), byte(o))
				p := begin(t, i, nil)
				out := p.tick()
				p.is(many, api.ErrOp)
				if out.Confirm != (many > 0) || len(p.hers.calls) != 0 {
					t.Errorf("%+v", out)
				}
			}
		}
	}
	for _, text := range []string{"now", "push 1", "confirm, now", "push 3, push 4, add", "push 7, drop"} {
		p := begun(t, text)
		p.tick()
		s := p.machine.State()
		if s.PC != len(code(text)) || s.Fault != api.ErrOp || s.Ticks != 1 {
			t.Errorf("%s: %+v", text, s)
		}
	}
	for o := 19; o < 256; o++ {
		for many := range 3 {
			p := begun(t, times(many, "push 6")+strconv.Itoa(o)+", yield, yield")
			p.tick()
			p.is(2*many, api.ErrOp, slices.Repeat([]int{6}, many)...)
		}
	}
}

// A yield at the end of the code is well; the tick behind it fails.
func TestYieldAtTheEnd(t *testing.T) {
	p := begun(t, "now, yield")
	p.tick()
	p.is(2, api.OK, 0)
	if out := p.tick(); !sameOut(out, vm.Out{}) {
		t.Errorf("%+v", out)
	}
	p.is(2, api.ErrOp, 0)
	if s := p.ticks(3); s.Ticks != 2 {
		t.Errorf("%+v", s)
	}
}

// P17.1: channels.

// Each channel that a byte may tell, of each set of Sends and of Receives: one of the one alone isn't one of the other.
func TestChannels(t *testing.T) {
	for sends := range 16 {
		for receives := range 16 {
			for c := range 256 {
				arg := strconv.Itoa(c)
				p := begin(t, imaged(1, 9, sends, receives, "push 5, send "+arg+", yield"), tells())
				out := p.tick()
				if c < 4 && sends&[]int{1, 2, 4, 8}[c] != 0 {
					p.is(5, api.OK)
					if !sameOut(out, brought(false, [2]int{c, 5})) {
						t.Errorf("%+v", out)
					}
				} else {
					p.is(2, api.ErrPort, 5)
					if len(p.hers.calls) != 0 || !sameOut(out, vm.Out{}) {
						t.Errorf("%v, %+v", p.hers.calls, out)
					}
				}
				p = begin(t, imaged(1, 9, sends, receives, "get "+arg+", yield"), tells(6))
				p.tick()
				if c < 4 && receives&[]int{1, 2, 4, 8}[c] != 0 {
					p.is(3, api.OK, 6, 1)
				} else {
					p.is(0, api.ErrPort)
					if len(p.hers.calls) != 0 {
						t.Errorf("%v", p.hers.calls)
					}
				}
			}
		}
	}
}

// Each number goes out as it is, and comes in as it is.
func TestMessages(t *testing.T) {
	for n := range 65536 {
		m, _ := vm.New(api.Image{Part: 3, Version: 1, Mem: 1, Fuel: 4, Sends: 8, Receives: 1, Code: []byte{15, 0, 2, 14, 3, 0}})
		p := &post{says: tells(n)}
		out := m.Tick(p)
		if len(out.Sent) != 1 || out.Sent[0] != (api.Sent{Channel: 3, N: n}) || len(p.calls) != 2 || p.calls[1] != (call{true, 3, 3, n}) {
			t.Fatalf("%d: %+v, %v", n, out, p.calls)
		}
	}
}

// Sent tells all in order, whatever becomes of it; behind a failure what was sent ahead of it.
func TestSentInOrder(t *testing.T) {
	for _, took := range []bool{false, true} {
		p := begin(t, imaged(1, 32, 15, 0, "push 1, send 3, push 2, send 0, push 3, send 3, push 4, send 1, confirm, push 4, send 1, yield"), always(reply{is: took}))
		if out := p.tick(); !sameOut(out, brought(true, [2]int{3, 1}, [2]int{0, 2}, [2]int{3, 3}, [2]int{1, 4}, [2]int{1, 4})) {
			t.Errorf("%+v", out)
		}
		p = begin(t, imaged(1, 32, 3, 0, "push 1, send 1, push 2, send 0, confirm, push 3, send 2, push 4, send 1"), always(reply{is: took}))
		if out := p.tick(); !sameOut(out, brought(true, [2]int{1, 1}, [2]int{0, 2})) {
			t.Errorf("%+v", out)
		}
		p.is(11, api.ErrPort, 3)
		if out := p.tick(); !sameOut(out, vm.Out{}) {
			t.Errorf("%+v", out)
		}
	}
}

// What a tick brought is told by that one alone.
func TestOutOfEachTick(t *testing.T) {
	p := begun(t, "push 1, send 0, confirm, yield, push 2, send 1, yield, yield, confirm, yield, jump 0")
	for range 3 {
		for _, want := range []vm.Out{brought(true, [2]int{0, 1}), brought(false, [2]int{1, 2}), {}, {Confirm: true}} {
			if out := p.tick(); !sameOut(out, want) {
				t.Errorf("%+v, want %+v", out, want)
			}
		}
	}
}

// Ports that refuse the machine, with whatever error, and whatever they tell beside it.
func TestRefused(t *testing.T) {
	for _, e := range []api.Errno{api.ErrEnd, api.ErrRange, api.ErrFull, api.ErrNil, api.ErrPort, api.ErrLine, -1, 21, math.MaxInt, math.MinInt} {
		for _, r := range []reply{{0, false, e}, {0, true, e}, {9, false, e}, {9, true, e}} {
			p := begin(t, imaged(1, 9, 1, 1, "push 4, confirm, push 5, send 0, yield"), always(r))
			if out := p.tick(); !sameOut(out, vm.Out{Confirm: true}) {
				t.Errorf("%+v", out)
			}
			p.is(5, api.ErrPort, 4, 5)
			p.tick()
			if want := []call{{true, 2, 0, 5}}; !slices.Equal(p.hers.calls, want) {
				t.Errorf("%v", p.hers.calls)
			}
			p = begin(t, imaged(1, 9, 1, 1, "push 4, get 0, yield"), always(r))
			p.tick()
			p.is(2, api.ErrPort, 4)
			p.tick()
			if want := []call{{false, 2, 0, 0}}; !slices.Equal(p.hers.calls, want) {
				t.Errorf("%v", p.hers.calls)
			}
		}
	}
}

// Beside a false a message that ports tell isn't one.
func TestNoMessage(t *testing.T) {
	p := begin(t, imaged(1, 9, 0, 1, "get 0, yield"), always(reply{n: 9}))
	p.tick()
	p.is(3, api.OK, 0)
}

// Numbers that are no message, of ports that aren't as they should be: what the machine has is a number all the same.
func TestStrangeMessages(t *testing.T) {
	for n, want := range map[int]int{65536: 0, 65537: 1, -1: 65535, -65536: 0, -65537: 65535, 1 << 40: 0, 1<<40 + 5: 5, math.MaxInt: 65535, math.MinInt: 0} {
		m, _ := vm.New(imaged(1, 9, 1, 1, "get 0, drop, dup, send 0, yield"))
		p := &post{says: always(reply{n: n, is: true})}
		out := m.Tick(p)
		if s := m.State(); !slices.Equal(s.Stack, []int{want}) || !sameOut(out, brought(false, [2]int{0, want})) || p.calls[1].n != want {
			t.Errorf("%d: %+v, %+v, %v", n, s, out, p.calls)
		}
	}
}

// panics are ports that panic.
type panics struct{ with any }

func (p panics) Send(part, channel, n int) (bool, api.Errno)  { panic(p.with) }
func (p panics) Get(part, channel int) (int, bool, api.Errno) { panic(p.with) }

// Ports that aren't there, that are nil within, or that panic, refuse the machine; where none is asked for they don't matter.
func TestNoPorts(t *testing.T) {
	var nobody *post
	var set *port.Set
	for n, p := range []vm.Ports{nil, nobody, set, struct{ vm.Ports }{}, panics{"no"}, panics{nil}, panics{api.OK}} {
		m, _ := vm.New(imaged(1, 9, 1, 1, "push 4, send 0, yield"))
		if out := m.Tick(p); !sameOut(out, vm.Out{}) {
			t.Errorf("%d: %+v", n, out)
		}
		if s := m.State(); !sameState(s, api.State{PC: 2, Stack: []int{4}, Mem: []int{0}, Ticks: 1, Fault: api.ErrPort}) {
			t.Errorf("%d: %+v", n, s)
		}
		m, _ = vm.New(imaged(1, 9, 1, 1, "confirm, get 0, yield"))
		if out := m.Tick(p); !sameOut(out, vm.Out{Confirm: true}) {
			t.Errorf("%d: %+v", n, out)
		}
		if s := m.State(); !sameState(s, api.State{PC: 1, Mem: []int{0}, Ticks: 1, Fault: api.ErrPort}) {
			t.Errorf("%d: %+v", n, s)
		}
		m, _ = vm.New(imaged(1, 9, 1, 1, "push 4, yield"))
		m.Tick(p)
		if s := m.State(); !sameState(s, api.State{PC: 3, Stack: []int{4}, Mem: []int{0}, Ticks: 1}) {
			t.Errorf("%d: %+v", n, s)
		}
	}
}

// asking are ports that ask the machine itself for all that it tells, and reset it, while it ticks.
type asking struct {
	machine *vm.Machine
	calls   int
}

func (a *asking) Send(part, channel, n int) (bool, api.Errno) {
	a.calls++
	a.machine.State()
	a.machine.Image()
	a.machine.Reset()
	return true, api.OK
}

func (a *asking) Get(part, channel int) (int, bool, api.Errno) {
	is, e := a.Send(part, channel, 0)
	return a.calls, is, e
}

// R1: a tick ends, and doesn't panic, even if its ports go back to the machine.
func TestPortsThatAsk(t *testing.T) {
	for _, text := range []string{"push 1, push 2, send 0, send 0, jump 0", "push 1, get 0, drop, drop, drop, jump 0", filled(8) + "send 0, drop, jump 16"} {
		m, _ := vm.New(imaged(2, 32, 1, 1, text))
		a := &asking{machine: m}
		for range 10 {
			m.Tick(a)
		}
		if a.calls == 0 {
			t.Errorf("%s: no calls", text)
		}
	}
}

// Channels of layer 16: of both kinds, full, empty, and another partition's.
func TestChannelsOfLayer16(t *testing.T) {
	whole := api.Part{Mem: 4, Fuel: 8}
	set, e := port.New(api.Table{
		Frame: 9, Trial: 1, Parts: []api.Part{whole, whole, whole}, Windows: []api.Window{{Long: 1}},
		Channels: []api.Channel{{From: 0, To: 1, Depth: 2}, {From: 0, To: 1}, {From: 1, To: 0, Depth: 1}, {From: 1, To: 2}},
	})
	if e != api.OK {
		t.Fatal(e)
	}
	made := func(part int, text string) *vm.Machine {
		m, e := vm.New(api.Image{Part: part, Version: 1, Mem: 4, Fuel: 30, Sends: 15, Receives: 15, Code: code(text)})
		if e != api.OK {
			t.Fatal(e)
		}
		return m
	}
	m := made(0, "push 1, send 0, push 2, send 0, push 3, send 0, push 4, send 1, push 5, send 1, get 2, yield, push 6, send 2")
	if out := m.Tick(set); !sameOut(out, brought(false, [2]int{0, 1}, [2]int{0, 2}, [2]int{0, 3}, [2]int{1, 4}, [2]int{1, 5})) {
		t.Errorf("%+v", out)
	}
	if a, b := set.Has(0), set.Has(1); !slices.Equal(a, []int{1, 2}) || !slices.Equal(b, []int{5}) {
		t.Errorf("%v, %v", a, b)
	}
	if s := m.State(); !slices.Equal(s.Stack, []int{0}) || s.PC != 23 {
		t.Errorf("%+v", s)
	}
	m.Tick(set)
	if s := m.State(); s.PC != 25 || s.Fault != api.ErrPort || !slices.Equal(s.Stack, []int{0, 6}) {
		t.Errorf("%+v", s)
	}
	m = made(1, "get 0, drop, get 0, drop, get 0, get 1, drop, get 1, drop, yield, drop, get 2")
	m.Tick(set)
	if s := m.State(); !slices.Equal(s.Stack, []int{1, 2, 0, 5, 5}) || s.PC != 15 {
		t.Errorf("%+v", s)
	}
	m.Tick(set)
	if s := m.State(); s.PC != 16 || s.Fault != api.ErrPort || !slices.Equal(s.Stack, []int{1, 2, 0, 5}) {
		t.Errorf("%+v", s)
	}
}

// P17.1: the stack.

// Each instruction with each number of numbers on the stack: with as many as it needs, and room for what it lays, it is well; with fewer, or without that room, it fails, and all stays.
func TestStackOfEach(t *testing.T) {
	for o, r := range rows {
		for high := range 9 {
			text := filled(high) + r.name
			if r.has {
				text += " 0"
			}
			for _, is := range []bool{false, true} {
				i := imaged(1, high+1, 1, 1, text+", yield, yield")
				p := begin(t, i, always(reply{n: 1000, is: is}))
				p.tick()
				next := len(code(text))
				switch s := p.machine.State(); {
				case o == api.OHalt:
					p.is(2*high, api.ErrState, lain(high)...)
				case high < r.needs:
					p.is(2*high, api.ErrNone, lain(high)...)
				case high-r.needs+r.lays > 8:
					p.is(2*high, api.ErrSize, lain(high)...)
				case o == api.OGet && !is:
					p.is(next, api.OK, append(lain(high), 0)...)
				case o == api.OGet:
					p.is(next, api.OK, append(lain(high), 1000, 1)...)
				case o == api.OJump:
					p.is(0, api.OK, lain(high)...)
				case s.PC != next || s.Fault != api.OK || len(s.Stack) != high-r.needs+r.lays || !slices.Equal(s.Stack[:high-r.needs], lain(high-r.needs)):
					t.Errorf("%s: %+v", text, s)
				}
			}
		}
	}
}

// How each instruction fails with each number of numbers on the stack, written out.
func TestStackByHand(t *testing.T) {
	const ok, none, size, state = api.OK, api.ErrNone, api.ErrSize, api.ErrState
	for text, want := range map[string][9]api.Errno{
		"yield":   {ok, ok, ok, ok, ok, ok, ok, ok, ok},
		"push 0":  {ok, ok, ok, ok, ok, ok, ok, ok, size},
		"drop":    {none, ok, ok, ok, ok, ok, ok, ok, ok},
		"dup":     {none, ok, ok, ok, ok, ok, ok, ok, size},
		"swap":    {none, none, ok, ok, ok, ok, ok, ok, ok},
		"add":     {none, none, ok, ok, ok, ok, ok, ok, ok},
		"sub":     {none, none, ok, ok, ok, ok, ok, ok, ok},
		"mul":     {none, none, ok, ok, ok, ok, ok, ok, ok},
		"less":    {none, none, ok, ok, ok, ok, ok, ok, ok},
		"same":    {none, none, ok, ok, ok, ok, ok, ok, ok},
		"load 0":  {ok, ok, ok, ok, ok, ok, ok, ok, size},
		"store 0": {none, ok, ok, ok, ok, ok, ok, ok, ok},
		"jump 0":  {ok, ok, ok, ok, ok, ok, ok, ok, ok},
		"zero 0":  {none, ok, ok, ok, ok, ok, ok, ok, ok},
		"send 0":  {none, ok, ok, ok, ok, ok, ok, ok, ok},
		"get 0":   {ok, ok, ok, ok, ok, ok, ok, size, size},
		"confirm": {ok, ok, ok, ok, ok, ok, ok, ok, ok},
		"halt":    {state, state, state, state, state, state, state, state, state},
		"now":     {ok, ok, ok, ok, ok, ok, ok, ok, size},
	} {
		for high, e := range want {
			for _, is := range []bool{false, true} {
				p := begin(t, imaged(1, high+1, 1, 1, filled(high)+text+", yield"), always(reply{is: is}))
				p.tick()
				if s := p.machine.State(); s.Fault != e || s.Ticks != 1 {
					t.Errorf("%s with %d: %+v, want %v", text, high, s, e)
				}
			}
		}
	}
}

// get that has no room takes nothing out of a channel; send without a number puts nothing into one.
func TestNoRoomNoCall(t *testing.T) {
	for _, text := range []string{filled(7) + "get 0", filled(8) + "get 0", "send 0", "push 1, drop, send 0"} {
		p := begin(t, imaged(1, 32, 1, 1, text), always(reply{n: 1, is: true}))
		p.tick()
		if len(p.hers.calls) != 0 || p.machine.State().Fault == api.OK {
			t.Errorf("%s: %v, %+v", text, p.hers.calls, p.machine.State())
		}
	}
}

// P17.1: failures.

// Where two would do, the one that is named first counts.
func TestFirstFault(t *testing.T) {
	refuses := always(reply{e: api.ErrFull})
	for _, c := range []struct {
		text string
		want api.Errno
	}{
		{"store 4", api.ErrRange}, // no such word, and no number
		{"store 255", api.ErrRange},
		{"zero 99", api.ErrRange}, // no such place, and no number
		{filled(8) + "load 4", api.ErrRange},
		{filled(8) + "load 255", api.ErrRange},
		{filled(8) + "load 0", api.ErrSize},
		{"send 1", api.ErrPort}, // not on, and no number
		{"send 200", api.ErrPort},
		{"send 0", api.ErrNone}, // no number, and refused
		{"push 1, send 0", api.ErrPort},
		{filled(8) + "get 0", api.ErrPort}, // not on, and no room
		{filled(7) + "get 64", api.ErrPort},
		{filled(7) + "get 1", api.ErrSize}, // no room, and refused
		{filled(8) + "get 1", api.ErrSize},
		{filled(6) + "get 1", api.ErrPort},
		{"dup", api.ErrNone},
		{"load", api.ErrOp}, // no number behind it, and no such word
		{"zero", api.ErrOp},
		{filled(8) + "get", api.ErrOp},
		{"send", api.ErrOp},
		{filled(8) + "push", api.ErrOp},
	} {
		p := begin(t, imaged(4, 32, 1, 2, c.text), refuses)
		if s := p.ticks(1); s.Fault != c.want {
			t.Errorf("%s: %+v, want %v", c.text, s, c.want)
		}
	}
}

// failing are instructions that fail behind what is ahead of them, which uses up just so much fuel.
func failing() map[string]int {
	return map[string]int{
		"halt": 0, "drop": 0, "load 4": 0, "jump 99": 0, "get 3": 0, "77": 0, "send 3": 0,
		"push 3, store 2, push 1, swap":            3,
		"push 3, store 2, push 1, add":             3,
		"push 3, store 2, push 1, push 2, store 4": 4,
		"push 3, store 2, push 1, zero 99":         3,
		"push 3, store 2, push 0, zero 99":         3,
		"push 3, store 2, push 1, send 2":          3,
		"push 3, store 2, push 1, send 0":          3,
		"push 3, store 2, push 1, get 1":           3,
		"push 3, store 2, push 1, halt":            3,
		"confirm, push 5, push 6, 19":              3,
		filled(8) + "dup":                          8,
		filled(8) + "push 9":                       8,
		filled(8) + "now":                          8,
		filled(8) + "load 1":                       8,
		filled(7) + "get 1":                        7,
	}
}

// What fails changes nothing but Fault and Ticks, and PC stays on it; and then the machine does nothing any more, but tells the same.
func TestFailureChangesNothing(t *testing.T) {
	for text, fuel := range failing() {
		says := always(reply{e: api.ErrPort})
		before := api.State{Mem: make([]int, 4)}
		if fuel > 0 {
			p := begin(t, imaged(4, fuel, 1, 2, text+", yield"), says)
			before = p.ticks(1)
		}
		p := begin(t, imaged(4, fuel+1, 1, 2, text+", yield"), says)
		p.tick()
		s := p.machine.State()
		want := copyState(before)
		want.Fault, want.Ticks = s.Fault, 1
		if s.Fault == api.OK || before.Fault != api.OK || !sameState(s, want) {
			t.Errorf("%s: %+v, want %+v", text, s, want)
		}
		heard := len(p.hers.calls)
		for range 40 {
			if out := p.tick(); !sameOut(out, vm.Out{}) {
				t.Errorf("%s: %+v", text, out)
			}
		}
		if again := p.machine.State(); !sameState(again, s) || len(p.hers.calls) != heard {
			t.Errorf("%s: %+v, want %+v", text, again, s)
		}
		p.reset()
		p.tick()
		if again := p.machine.State(); !sameState(again, s) {
			t.Errorf("%s: %+v, want %+v", text, again, s)
		}
	}
}

// The tick in which it fails is one more; it ends with the failure, whatever fuel is left.
func TestFailureInALaterTick(t *testing.T) {
	for many := range 10 {
		p := begun(t, times(many, "yield")+"push 1, halt, push 2, yield")
		for n := range 15 {
			if s := p.ticks(1); s.Ticks != min(n+1, many+1) || (s.Fault == api.ErrState) != (n >= many) {
				t.Errorf("%d: %+v", many, s)
			}
		}
		p.is(many+2, api.ErrState, 1)
	}
}

// P17.1: ticks.

// yield first, in the midst and last; and behind one another.
func TestYield(t *testing.T) {
	p := begin(t, imaged(1, 5, 0, 0, "yield, push 1, yield, push 2, push 3, yield, yield, push 4, yield"), nil)
	for _, want := range []struct {
		pc    int
		stack []int
	}{{1, nil}, {4, []int{1}}, {9, []int{1, 2, 3}}, {10, []int{1, 2, 3}}, {13, []int{1, 2, 3, 4}}} {
		p.tick()
		p.is(want.pc, api.OK, want.stack...)
	}
	p.tick()
	p.is(13, api.ErrOp, 1, 2, 3, 4)
}

// Each Fuel with each number of instructions ahead of a yield: with just as much as they need, the yield comes in the next tick, and is all of it.
func TestFuel(t *testing.T) {
	for fuel := 1; fuel <= 32; fuel++ {
		for many := 0; many <= 40; many++ {
			i := imaged(1, fuel, 0, 0, times(many, "confirm")+"yield, push 9, yield")
			p := begin(t, i, nil)
			whole := many / fuel // ticks that end without the yield
			for n := range whole {
				p.tick()
				p.is(fuel*(n+1), api.OK)
			}
			p.tick()
			p.is(many+1, api.OK)
			if s := p.machine.State(); s.Ticks != whole+1 {
				t.Errorf("fuel %d, %d instructions: %+v", fuel, many, s)
			}
			p.tick()
			if fuel == 1 {
				p.tick()
			}
			p.is(many+4, api.OK, 9)
		}
	}
}

// A jump, and a zero that leads on or doesn't, use up fuel as all others do, and so does one whose number is two bytes on.
func TestFuelOfEach(t *testing.T) {
	for o, r := range rows {
		if o == api.OYield || o == api.OHalt {
			continue
		}
		text := filled(2) + r.name
		if r.has {
			text += " 0"
		}
		for fuel := 1; fuel <= 5; fuel++ {
			p := begin(t, imaged(1, fuel, 1, 1, text+", confirm, yield"), tells())
			p.ticks(12)
		}
		p := begin(t, imaged(1, 3, 1, 1, text+", confirm, yield"), tells())
		if out := p.tick(); out.Confirm && o != api.OConfirm {
			t.Errorf("%s: a fourth instruction was done", r.name)
		}
	}
}

// A program without a yield is cut in ticks by its fuel alone.
func TestFuelAlone(t *testing.T) {
	for fuel := 1; fuel <= 32; fuel++ {
		p := begin(t, imaged(1, fuel, 0, 0, "load 0, push 1, add, store 0, jump 0"), nil)
		for n := 1; n <= 60; n++ {
			s := p.ticks(1)
			done := n * fuel
			counts := done / 5
			if done%5 == 4 {
				counts++
			}
			if s.Mem[0] != counts || s.PC != []int{0, 2, 4, 5, 7}[done%5] || s.Ticks != n {
				t.Fatalf("fuel %d, tick %d: %+v", fuel, n, s)
			}
		}
	}
}

// now tells how many ticks went ahead of this one, modulo 65536.
func TestNow(t *testing.T) {
	p := begin(t, imaged(1, 32, 0, 0, "now, now, store 0, drop, yield, jump 0"), nil)
	m, q := p.machine, &p.hers
	for n := range 2*65536 + 5 {
		m.Tick(q)
		if n%1000 > 1 && n%65536 > 1 && n%65536 < 65534 {
			continue
		}
		if s := m.State(); s.Mem[0] != n%65536 || s.Ticks != n+1 || s.Fault != api.OK || len(s.Stack) != 0 {
			t.Fatalf("%d: %+v", n, s)
		}
	}
	m.Reset()
	m.Tick(q)
	if s := m.State(); s.Mem[0] != 0 || s.Ticks != 1 {
		t.Errorf("%+v", s)
	}
}

// Within one tick now tells the same, however much is done.
func TestNowWithinATick(t *testing.T) {
	p := begun(t, "now, yield, now, now, confirm, now, yield, now, halt")
	p.ticks(5)
	p.is(8, api.ErrState, 0, 1, 1, 1, 2)
	if s := p.machine.State(); s.Ticks != 3 {
		t.Errorf("%+v", s)
	}
}
