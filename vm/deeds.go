package vm

import "longeron/api"

const (
	mostStack = 8
	modulo    = 65536
)

// work is what an instruction works on. Its state is the machine's only when the instruction went well; so it may go on behind a fault, if it leaves the ports alone.
type work struct {
	state
	image api.Image
	ports Ports
	out   *Out
	ends  bool // the tick ends behind the instruction
}

// deeds are what instructions do with their argument, by Op. PC is that of the next one already.
func deeds() [api.ONow + 1]func(*work, int) {
	return [...]func(*work, int){
		api.OYield:   (*work).yield,
		api.OPush:    (*work).lay,
		api.ODrop:    (*work).drop,
		api.ODup:     (*work).dup,
		api.OSwap:    (*work).swap,
		api.OAdd:     (*work).add,
		api.OSub:     (*work).sub,
		api.OMul:     (*work).mul,
		api.OLess:    (*work).less,
		api.OSame:    (*work).same,
		api.OLoad:    (*work).load,
		api.OStore:   (*work).store,
		api.OJump:    (*work).jump,
		api.OZero:    (*work).zero,
		api.OSend:    (*work).send,
		api.OGet:     (*work).get,
		api.OConfirm: (*work).confirm,
		api.OHalt:    (*work).halt,
		api.ONow:     (*work).now,
	}
}

func (w *work) yield(int) { w.ends = true }

func (w *work) drop(int) { w.take() }

func (w *work) dup(int) {
	n := w.take()
	w.lay(n)
	w.lay(n)
}

func (w *work) swap(int) {
	b, a := w.take(), w.take()
	w.lay(b)
	w.lay(a)
}

func (w *work) add(int) {
	b, a := w.take(), w.take()
	w.lay(a + b)
}

func (w *work) sub(int) {
	b, a := w.take(), w.take()
	w.lay(a - b)
}

func (w *work) mul(int) {
	b, a := w.take(), w.take()
	w.lay(a * b)
}

func (w *work) less(int) {
	b, a := w.take(), w.take()
	w.layTruth(a < b)
}

func (w *work) same(int) {
	b, a := w.take(), w.take()
	w.layTruth(a == b)
}

func (w *work) load(at int) {
	if w.need(at < w.image.Mem, api.ErrRange) {
		w.lay(w.mem[at])
	}
}

func (w *work) store(at int) {
	if w.need(at < w.image.Mem, api.ErrRange) {
		w.mem[at] = w.take()
	}
}

func (w *work) jump(p int) {
	w.need(p < len(w.image.Code), api.ErrRange)
	w.pc = p
}

// zero fails where there is no place p even if it doesn't go on there.
func (w *work) zero(p int) {
	w.need(p < len(w.image.Code), api.ErrRange)
	if w.take() == 0 {
		w.pc = p
	}
}

func (w *work) send(c int) {
	w.need(on(w.image.Sends, c), api.ErrPort)
	n := w.take()
	if w.fault == api.OK && w.need(w.sends(c, n) == api.OK, api.ErrPort) {
		w.out.Sent = append(w.out.Sent, api.Sent{Channel: c, N: n})
	}
}

// get asks for room ahead of the message: a queue has it no longer, once it is got.
func (w *work) get(c int) {
	w.need(on(w.image.Receives, c), api.ErrPort)
	w.need(w.height+2 <= mostStack, api.ErrSize)
	if w.fault != api.OK {
		return
	}
	n, is, e := w.gets(c)
	w.need(e == api.OK, api.ErrPort)
	if is {
		w.lay(n)
	}
	w.layTruth(is)
}

func (w *work) confirm(int) { w.out.Confirm = true }

func (w *work) halt(int) { w.need(false, api.ErrState) }

func (w *work) now(int) { w.lay(w.ticks) }

// need notes the fault that there is unless it holds. The first one counts.
func (w *work) need(holds bool, fault api.Errno) bool {
	if !holds && w.fault == api.OK {
		w.fault = fault
	}
	return holds
}

// take takes the top. Where there is none the answer doesn't matter.
func (w *work) take() int {
	if !w.need(w.height > 0, api.ErrNone) {
		return 0
	}
	w.height--
	return w.stack[w.height]
}

// lay lays n, modulo 65536, of whatever sign it is.
func (w *work) lay(n int) {
	if w.need(w.height < mostStack, api.ErrSize) {
		w.stack[w.height] = n & (modulo - 1)
		w.height++
	}
}

func (w *work) layTruth(is bool) {
	if is {
		w.lay(1)
	} else {
		w.lay(0)
	}
}

// sends tells how the channel refuses the machine, if it does. Ports that aren't there, or that panic, refuse it, too: no tick panics, whatever it is handed.
func (w *work) sends(c, n int) (e api.Errno) {
	defer func() {
		if recover() != nil {
			e = api.ErrPort
		}
	}()
	_, e = w.ports.Send(w.image.Part, c, n)
	return e
}

// gets answers the channel's message, and of Ports that aren't there, or that panic, likewise.
func (w *work) gets(c int) (n int, is bool, e api.Errno) {
	defer func() {
		if recover() != nil {
			e = api.ErrPort
		}
	}()
	return w.ports.Get(w.image.Part, c)
}

// on tells whether the bit c is on.
func on(set, c int) bool { return set>>c&1 == 1 }
