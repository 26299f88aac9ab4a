// Package num is layer 1: big-endian numbers of one to six bytes, texts that tell their length first, and a reader of both.
package num

import (
	"bytes"

	"longeron/api"
)

const (
	mostWidth = 6                    // bytes of a number
	textWidth = 2                    // bytes of a text's length
	mostText  = 1<<(8*textWidth) - 1 // bytes of a text
)

// Put answers b, and n behind it as a number of w bytes. The answer is always new memory: b's spare room is its owner's.
func Put(b []byte, n, w int) []byte {
	w = width(w)
	n = min(max(n, 0), 1<<(8*w)-1)
	out := make([]byte, len(b), len(b)+w)
	copy(out, b)
	for i := range w {
		out = append(out, byte(n>>(8*(w-1-i))))
	}
	return out
}

// Text answers b, and t behind it as a text: of one that is too long its first bytes.
func Text(b, t []byte) []byte {
	t = t[:min(len(t), mostText)]
	return append(Put(b, len(t), textWidth), t...)
}

// Reader reads numbers, texts and bytes, one behind the other, till it fails.
type Reader struct {
	left  []byte
	fault api.Errno
}

// Read makes a reader at b's first byte. It reads a copy, as b may be changed before all is read.
func Read(b []byte) *Reader {
	return &Reader{left: bytes.Clone(b)}
}

// Num reads a number of w bytes.
func (r *Reader) Num(w int) int {
	n := 0
	for _, b := range r.next()(width(w)) {
		n = n<<8 | int(b)
	}
	return n
}

// Text reads a text of at most so many bytes. One that is longer fails ahead of its bytes: whether they are there doesn't matter then.
func (r *Reader) Text(most int) []byte {
	n := r.Num(textWidth)
	if n > most {
		r.Fail(api.ErrFull)
	}
	return r.Bytes(n)
}

// Bytes reads n bytes. They are copied out, as an answer must not share what the reader has yet to read.
func (r *Reader) Bytes(n int) []byte {
	return bytes.Clone(r.next()(max(n, 0)))
}

// Left tells how many bytes are left.
func (r *Reader) Left() int {
	if r.ended() {
		return 0
	}
	return len(r.left)
}

// Fail makes the reader fail with e. The first fault counts, so that End tells the cause and not what came of it.
func (r *Reader) Fail(e api.Errno) {
	if !r.ended() {
		r.fault = e
	}
}

// End tells how reading ended. Bytes that are left are no fault: more may be read behind it.
func (r *Reader) End() api.Errno {
	switch {
	case r == nil:
		return api.ErrNil
	case r.fault != api.OK:
		return r.fault
	case len(r.left) > 0:
		return api.ErrForm
	}
	return api.OK
}

// next tells what the reader does with the next bytes: the calls that read needn't know whether it failed, or is nil.
func (r *Reader) next() func(n int) []byte {
	if r.ended() {
		return r.stay
	}
	return r.goOn
}

// goOn cuts off the next n bytes, or fails where the bytes end within.
func (r *Reader) goOn(n int) []byte {
	if n > len(r.left) {
		r.Fail(api.ErrEnd)
		return nil
	}
	b := r.left[:n]
	r.left = r.left[n:]
	return b
}

// stay reads nothing, and leaves the reader where it was.
func (r *Reader) stay(int) []byte { return nil }

// ended tells whether nothing more can be read of the reader, whatever bytes are left.
func (r *Reader) ended() bool { return r == nil || r.fault != api.OK }

// width holds how many bytes a number has within its bounds.
func width(w int) int { return min(max(w, 1), mostWidth) }
