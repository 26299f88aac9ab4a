package vm_test

import (
	"slices"
	"strconv"
	"strings"
	"testing"

	"longeron/api"
	"longeron/vm"
)

// row is an instruction of the chapter's table: its name, whether it has an argument, how many numbers it needs on the stack, and how many lie there in their place behind it (of get, at most).
type row struct {
	name        string
	has         bool
	needs, lays int
}

// rows are all that there are, by their Op.
var rows = []row{
	{"yield", false, 0, 0}, {"push", true, 0, 1}, {"drop", false, 1, 0}, {"dup", false, 1, 2}, {"swap", false, 2, 2},
	{"add", false, 2, 1}, {"sub", false, 2, 1}, {"mul", false, 2, 1}, {"less", false, 2, 1}, {"same", false, 2, 1},
	{"load", true, 0, 1}, {"store", true, 1, 0}, {"jump", true, 0, 0}, {"zero", true, 1, 0}, {"send", true, 1, 0},
	{"get", true, 0, 2}, {"confirm", false, 0, 0}, {"halt", false, 0, 0}, {"now", false, 0, 1},
}

// code are the bytes of instructions, with a comma and a blank between. What is a number is a byte as it is; an argument that isn't there has no byte.
func code(text string) []byte {
	var b []byte
	if text == "" {
		return nil
	}
	for _, s := range strings.Split(text, ", ") {
		name, arg, _ := strings.Cut(s, " ")
		o := slices.IndexFunc(rows, func(r row) bool { return r.name == name })
		if o < 0 {
			n, err := strconv.Atoi(name)
			if err != nil {
				panic(s)
			}
			o = n
		}
		b = append(b, byte(o))
		if arg != "" {
			n, err := strconv.Atoi(arg)
			if err != nil {
				panic(s)
			}
			b = append(b, byte(n))
		}
	}
	return b
}

// times is a text of instructions so many times, each with a comma behind it.
func times(many int, text string) string { return strings.Repeat(text+", ", many) }

// model is a machine as the chapter's words have it.
type model struct {
	image api.Image
	state api.State
}

func modelOf(i api.Image) *model {
	i.Code = slices.Clone(i.Code)
	return &model{image: i, state: api.State{Mem: make([]int, i.Mem)}}
}

func (m *model) tick(p vm.Ports) vm.Out {
	var out vm.Out
	if m.state.Fault != api.OK {
		return out
	}
	for n := 0; n < m.image.Fuel && m.state.Fault == api.OK; n++ {
		yields := m.state.PC < len(m.image.Code) && m.image.Code[m.state.PC] == api.OYield
		m.state.Fault = m.do(p, &out)
		if yields {
			break
		}
	}
	m.state.Ticks++
	return out
}

// do does an instruction, and answers how it fails.
func (m *model) do(p vm.Ports, out *vm.Out) api.Errno {
	i, s := m.image, &m.state
	if s.PC >= len(i.Code) || int(i.Code[s.PC]) >= len(rows) {
		return api.ErrOp
	}
	o, arg, next := int(i.Code[s.PC]), 0, s.PC+1
	if rows[o].has {
		if next == len(i.Code) {
			return api.ErrOp
		}
		arg, next = int(i.Code[next]), next+1
	}
	if e := m.fault(o, arg); e != api.OK {
		return e
	}
	keep := len(s.Stack) - rows[o].needs
	lays, e := m.lays(o, arg, s.Stack[keep:], p, out)
	if e != api.OK {
		return e
	}
	switch {
	case o == api.OStore:
		s.Mem[arg] = s.Stack[keep]
	case o == api.OJump, o == api.OZero && s.Stack[keep] == 0:
		next = arg
	}
	s.PC = next
	s.Stack = append(slices.Clone(s.Stack[:keep]), lays...)
	return api.OK
}

// fault is how an instruction fails ahead of the ports, in the order in which the chapter names it.
func (m *model) fault(o, arg int) api.Errno {
	bit := 1 << min(arg, 40)
	high := len(m.state.Stack)
	switch {
	case (o == api.OLoad || o == api.OStore) && arg >= len(m.state.Mem):
		return api.ErrRange
	case (o == api.OJump || o == api.OZero) && arg >= len(m.image.Code):
		return api.ErrRange
	case o == api.OSend && m.image.Sends&bit == 0, o == api.OGet && m.image.Receives&bit == 0:
		return api.ErrPort
	case high < rows[o].needs:
		return api.ErrNone
	case high-rows[o].needs+rows[o].lays > 8:
		return api.ErrSize
	case o == api.OHalt:
		return api.ErrState
	}
	return api.OK
}

// lays are the numbers that an instruction lays in the place of those that it took, of which the last one was on top.
func (m *model) lays(o, arg int, took []int, p vm.Ports, out *vm.Out) ([]int, api.Errno) {
	truth := map[bool]int{true: 1}
	switch o {
	case api.OPush:
		return []int{arg}, api.OK
	case api.ODup:
		return []int{took[0], took[0]}, api.OK
	case api.OSwap:
		return []int{took[1], took[0]}, api.OK
	case api.OAdd:
		return []int{(took[0] + took[1]) % 65536}, api.OK
	case api.OSub:
		return []int{(took[0] + 65536 - took[1]) % 65536}, api.OK
	case api.OMul:
		return []int{int(uint64(took[0]) * uint64(took[1]) % 65536)}, api.OK
	case api.OLess:
		return []int{truth[took[0] < took[1]]}, api.OK
	case api.OSame:
		return []int{truth[took[0] == took[1]]}, api.OK
	case api.OLoad:
		return []int{m.state.Mem[arg]}, api.OK
	case api.OSend:
		if _, e := p.Send(m.image.Part, arg, took[0]); e != api.OK {
			return nil, api.ErrPort
		}
		out.Sent = append(out.Sent, api.Sent{Channel: arg, N: took[0]})
	case api.OGet:
		n, is, e := p.Get(m.image.Part, arg)
		switch {
		case e != api.OK:
			return nil, api.ErrPort
		case is:
			return []int{n, 1}, api.OK
		}
		return []int{0}, api.OK
	case api.OConfirm:
		out.Confirm = true
	case api.ONow:
		return []int{m.state.Ticks % 65536}, api.OK
	}
	return nil, api.OK
}

// call is one that the ports heard: a Send, or a Get.
type call struct {
	sends         bool
	part, channel int
	n             int
}

// reply is what ports answer.
type reply struct {
	n  int
	is bool
	e  api.Errno
}

// post are ports that answer as they are told to, by what they are asked for and how many calls of that kind came ahead, and that remember what was called.
type post struct {
	says  func(c call, ahead int) reply
	calls []call
}

func (p *post) hear(c call) reply {
	ahead := 0
	for _, other := range p.calls {
		if other.sends == c.sends {
			ahead++
		}
	}
	p.calls = append(p.calls, c)
	if p.says == nil {
		return reply{}
	}
	return p.says(c, ahead)
}

func (p *post) Send(part, channel, n int) (bool, api.Errno) {
	r := p.hear(call{true, part, channel, n})
	return r.is, r.e
}

func (p *post) Get(part, channel int) (int, bool, api.Errno) {
	r := p.hear(call{false, part, channel, 0})
	return r.n, r.is, r.e
}

// always are ports that answer all calls alike.
func always(r reply) func(call, int) reply { return func(call, int) reply { return r } }

// tells are ports of which the channels to the machine have these messages, one behind the other, and of which those from it take all.
func tells(messages ...int) func(call, int) reply {
	return func(c call, ahead int) reply {
		if c.sends || ahead >= len(messages) {
			return reply{is: c.sends}
		}
		return reply{n: messages[ahead], is: true}
	}
}

// pair is a machine, and a model of it, each with ports of its own that answer alike.
type pair struct {
	t        *testing.T
	machine  *vm.Machine
	model    *model
	hers, my post
}

func imaged(mem, fuel, sends, receives int, text string) api.Image {
	return api.Image{Part: 2, Version: 7, Hard: 300, Mem: mem, Fuel: fuel, Sends: sends, Receives: receives, Code: code(text)}
}

func begin(t *testing.T, i api.Image, says func(call, int) reply) *pair {
	t.Helper()
	m, e := vm.New(i)
	if m == nil || e != api.OK {
		t.Fatalf("New(%v): %v, %v", i, m, e)
	}
	p := &pair{t: t, machine: m, model: modelOf(i), hers: post{says: says}, my: post{says: says}}
	p.judge()
	return p
}

func sameState(a, b api.State) bool {
	return a.PC == b.PC && slices.Equal(a.Stack, b.Stack) && slices.Equal(a.Mem, b.Mem) && a.Ticks == b.Ticks && a.Fault == b.Fault
}

func sameImage(a, b api.Image) bool {
	same := slices.Equal(a.Code, b.Code)
	a.Code, b.Code = nil, nil
	return same && [...]int{a.Part, a.Version, a.Hard, a.Mem, a.Fuel, a.Sends, a.Receives} == [...]int{b.Part, b.Version, b.Hard, b.Mem, b.Fuel, b.Sends, b.Receives}
}

// brought is what a tick brings that sends these numbers through these channels.
func brought(confirm bool, sent ...[2]int) vm.Out {
	out := vm.Out{Confirm: confirm}
	for _, s := range sent {
		out.Sent = append(out.Sent, api.Sent{Channel: s[0], N: s[1]})
	}
	return out
}

func sameOut(a, b vm.Out) bool { return slices.Equal(a.Sent, b.Sent) && a.Confirm == b.Confirm }

// copyState is one of memory of its own.
func copyState(s api.State) api.State {
	s.Stack, s.Mem = slices.Clone(s.Stack), slices.Clone(s.Mem)
	return s
}

// judge says whether the machine is where it should be, has its image, and called the ports as it should.
func (p *pair) judge() {
	p.t.Helper()
	if s := p.machine.State(); !sameState(s, p.model.state) {
		p.t.Fatalf("image %v: state %+v, want %+v", p.model.image, s, p.model.state)
	}
	if i := p.machine.Image(); !sameImage(i, p.model.image) {
		p.t.Fatalf("image %v, want %v", i, p.model.image)
	}
	if !slices.Equal(p.hers.calls, p.my.calls) {
		p.t.Fatalf("image %v: the ports heard %v, want %v", p.model.image, p.hers.calls, p.my.calls)
	}
}

// tick lets both do a tick, and answers what it brought.
func (p *pair) tick() vm.Out {
	p.t.Helper()
	out, want := p.machine.Tick(&p.hers), p.model.tick(&p.my)
	if !sameOut(out, want) {
		p.t.Fatalf("image %v, tick %d: %+v, want %+v", p.model.image, p.model.state.Ticks, out, want)
	}
	p.judge()
	return out
}

func (p *pair) reset() {
	p.t.Helper()
	p.machine.Reset()
	p.model = modelOf(p.model.image)
	p.judge()
}

// ticks lets both do so many, and answers the state behind them.
func (p *pair) ticks(many int) api.State {
	p.t.Helper()
	for range many {
		p.tick()
	}
	return p.machine.State()
}
