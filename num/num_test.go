package num_test

import (
	"bytes"
	"math"
	"slices"
	"testing"

	"longeron/api"
	"longeron/num"
)

// greatest is the greatest number of w bytes.
func greatest(w int) int { return 1<<(8*w) - 1 }

// text is the bytes of a text that says that it has n bytes, and those that are there.
func text(n int, there string) []byte {
	return append([]byte{byte(n >> 8), byte(n)}, there...)
}

// roomy is b with spare room behind it, all of it 0xee, and the whole.
func roomy(b string) (short, whole []byte) {
	whole = append([]byte(b), bytes.Repeat([]byte{0xee}, 64)...)
	return whole[:len(b)], whole
}

// fill writes x all over b, spare room included.
func fill(b []byte, x byte) {
	for i := range b[:cap(b)] {
		b[:cap(b)][i] = x
	}
}

// dead says of a reader that failed with e whether it reads nothing more, and keeps the error.
func dead(t *testing.T, r *num.Reader, e api.Errno) {
	t.Helper()
	for range 2 {
		if got := r.End(); got != e {
			t.Errorf("End %d, want %d", got, e)
		}
		if r.Left() != 0 {
			t.Errorf("Left %d of one that failed", r.Left())
		}
		if n := r.Num(1); n != 0 {
			t.Errorf("Num %d of one that failed", n)
		}
		if b := r.Text(9); len(b) != 0 {
			t.Errorf("Text %x of one that failed", b)
		}
		if b := r.Bytes(1); len(b) != 0 {
			t.Errorf("Bytes %x of one that failed", b)
		}
		if b := r.Bytes(0); len(b) != 0 {
			t.Errorf("Bytes %x of one that failed", b)
		}
		r.Fail(api.ErrTrial)
		r.Fail(api.OK)
	}
}

// P1.1: numbers.

func TestPut(t *testing.T) {
	for _, c := range []struct {
		n, w int
		want string
	}{
		{300, 2, "\x01\x2c"},
		{0, 1, "\x00"},
		{0x41, 1, "A"},
		{0x010203, 3, "\x01\x02\x03"},
		{0x01020304, 4, "\x01\x02\x03\x04"},
		{0x0102030405, 5, "\x01\x02\x03\x04\x05"},
		{0x010203040506, 6, "\x01\x02\x03\x04\x05\x06"},
		{7, 3, "\x00\x00\x07"},
		{1 << 40, 6, "\x01\x00\x00\x00\x00\x00"},
	} {
		if b := num.Put(nil, c.n, c.w); string(b) != c.want {
			t.Errorf("Put(nil, %d, %d): %x, want %x", c.n, c.w, b, c.want)
		}
	}
}

func TestPutHoldsTheNumber(t *testing.T) {
	for w := 1; w <= 6; w++ {
		zeros, ones := make([]byte, w), bytes.Repeat([]byte{0xff}, w)
		below := append(bytes.Repeat([]byte{0xff}, w-1), 0xfe)
		for _, c := range []struct {
			n    int
			want []byte
		}{
			{0, zeros}, {-1, zeros}, {-256, zeros}, {math.MinInt, zeros},
			{greatest(w) - 1, below},
			{greatest(w), ones}, {greatest(w) + 1, ones}, {greatest(w) + 2, ones}, {math.MaxInt, ones},
		} {
			if b := num.Put(nil, c.n, w); !bytes.Equal(b, c.want) {
				t.Errorf("Put(nil, %d, %d): %x, want %x", c.n, w, b, c.want)
			}
		}
	}
}

func TestPutHoldsTheWidth(t *testing.T) {
	for _, w := range []int{0, -1, -8, math.MinInt} {
		if b := num.Put(nil, 7, w); string(b) != "\x07" {
			t.Errorf("w %d: %x", w, b)
		}
		if b := num.Put(nil, 256, w); string(b) != "\xff" { // as of one byte: too great
			t.Errorf("w %d: %x", w, b)
		}
	}
	for _, w := range []int{7, 8, 64, math.MaxInt} {
		if b := num.Put(nil, 7, w); string(b) != "\x00\x00\x00\x00\x00\x07" {
			t.Errorf("w %d: %x", w, b)
		}
		if b := num.Put(nil, 1<<48, w); string(b) != "\xff\xff\xff\xff\xff\xff" {
			t.Errorf("w %d: %x", w, b)
		}
	}
}

func TestPutGoesBehind(t *testing.T) {
	b := num.Put(num.Put([]byte("ab"), 300, 2), 5, 1)
	if string(b) != "ab\x01\x2c\x05" {
		t.Errorf("%x", b)
	}
	if b := num.Put([]byte{}, 5, 1); string(b) != "\x05" {
		t.Errorf("%x", b)
	}
}

// P1.1: texts.

func TestText(t *testing.T) {
	for _, c := range []struct{ b, t, want string }{
		{"", "", "\x00\x00"},
		{"", "a", "\x00\x01a"},
		{"\x09", "ab", "\x09\x00\x02ab"},
		{"abc", "", "abc\x00\x00"},
	} {
		if b := num.Text([]byte(c.b), []byte(c.t)); string(b) != c.want {
			t.Errorf("Text(%q, %q): %x, want %x", c.b, c.t, b, c.want)
		}
	}
	if b := num.Text(nil, nil); string(b) != "\x00\x00" {
		t.Errorf("%x", b)
	}
}

func TestTextHoldsTheLength(t *testing.T) {
	long := make([]byte, 65535+300)
	for i := range long {
		long[i] = byte(i % 251)
	}
	for _, c := range []struct{ n, want int }{
		{255, 255}, {256, 256}, {65534, 65534}, {65535, 65535}, {65536, 65535}, {65537, 65535}, {len(long), 65535},
	} {
		want := append(text(c.want, "")[:2:2], long[:c.want]...)
		if b := num.Text(nil, long[:c.n]); !bytes.Equal(b, want) {
			t.Errorf("text of %d bytes: %d bytes, which begin with %x", c.n, len(b), b[:2])
		}
	}
}

// P1.2: what is read.

func TestNum(t *testing.T) {
	b := []byte{1, 2, 3, 4, 5, 6, 7}
	for _, c := range []struct{ w, want, left int }{
		{1, 0x01, 6}, {2, 0x0102, 5}, {3, 0x010203, 4}, {4, 0x01020304, 3}, {5, 0x0102030405, 2}, {6, 0x010203040506, 1},
		{0, 0x01, 6}, {-1, 0x01, 6}, {math.MinInt, 0x01, 6},
		{7, 0x010203040506, 1}, {8, 0x010203040506, 1}, {math.MaxInt, 0x010203040506, 1},
	} {
		r := num.Read(b)
		if n := r.Num(c.w); n != c.want || r.Left() != c.left || r.End() != api.ErrForm {
			t.Errorf("Num(%d): %x, left %d, End %d", c.w, n, r.Left(), r.End())
		}
	}
}

func TestNumOfWhatWasPut(t *testing.T) {
	for w := 1; w <= 6; w++ {
		for _, n := range []int{0, 1, 127, 128, 255, greatest(w) / 3, greatest(w) - 1, greatest(w)} {
			r := num.Read(num.Put(nil, n, w))
			if got := r.Num(w); got != n || r.End() != api.OK {
				t.Errorf("w %d: %d, want %d, End %d", w, got, n, r.End())
			}
		}
	}
}

func TestNumWhereTheBytesEnd(t *testing.T) {
	for w := -1; w <= 8; w++ {
		for n := range min(max(w, 1), 6) {
			r := num.Read(bytes.Repeat([]byte{5}, n))
			if got := r.Num(w); got != 0 {
				t.Errorf("Num(%d) of %d bytes: %d", w, n, got)
			}
			dead(t, r, api.ErrEnd)
		}
	}
}

func TestReadText(t *testing.T) {
	for _, c := range []struct {
		b, want    string
		most, left int
		end        api.Errno
	}{
		{"\x00\x00", "", 0, 0, api.OK},
		{"\x00\x02ab", "ab", 2, 0, api.OK},
		{"\x00\x02ab", "ab", 3, 0, api.OK},
		{"\x00\x02ab", "ab", math.MaxInt, 0, api.OK},
		{"\x00\x02abc", "ab", 2, 1, api.ErrForm},
	} {
		r := num.Read([]byte(c.b))
		if got := r.Text(c.most); string(got) != c.want || r.Left() != c.left || r.End() != c.end {
			t.Errorf("Text(%d) of %q: %q, left %d, End %d", c.most, c.b, got, r.Left(), r.End())
		}
	}
}

func TestReadTextFails(t *testing.T) {
	for _, c := range []struct {
		b    []byte
		most int
		want api.Errno
	}{
		{text(5, "abcde"), 4, api.ErrFull},
		{text(5, "abcde"), 0, api.ErrFull},
		{text(5, "abcdefgh"), 4, api.ErrFull},
		{text(5, "abc"), 4, api.ErrFull}, // the length alone tells
		{text(5, ""), 4, api.ErrFull},
		{text(65535, ""), 65534, api.ErrFull},
		{text(1, "a"), -1, api.ErrFull},
		{text(0, ""), -1, api.ErrFull},
		{text(0, ""), math.MinInt, api.ErrFull},
		{text(5, "abcd"), 5, api.ErrEnd},
		{text(5, "abc"), 9, api.ErrEnd},
		{text(1, ""), 1, api.ErrEnd},
		{text(65535, "abc"), 65535, api.ErrEnd},
		{nil, 9, api.ErrEnd}, // the length itself ends within
		{[]byte{0}, 9, api.ErrEnd},
		{[]byte{0}, -1, api.ErrEnd},
	} {
		r := num.Read(c.b)
		if got := r.Text(c.most); len(got) != 0 {
			t.Errorf("Text(%d) of %x: %x", c.most, c.b, got)
		}
		dead(t, r, c.want)
	}
}

func TestTextOfWhatWasPut(t *testing.T) {
	long := bytes.Repeat([]byte("0123456789"), 6553)
	for _, n := range []int{0, 1, 255, 256, 65530} {
		r := num.Read(num.Text(nil, long[:n]))
		if got := r.Text(n); !bytes.Equal(got, long[:n]) || r.End() != api.OK {
			t.Errorf("text of %d bytes: %d, End %d", n, len(got), r.End())
		}
	}
}

func TestBytes(t *testing.T) {
	for _, c := range []struct {
		n    int
		want string
		left int
	}{
		{0, "", 4}, {1, "a", 3}, {3, "abc", 1}, {4, "abcd", 0}, {-1, "", 4}, {math.MinInt, "", 4},
	} {
		r := num.Read([]byte("abcd"))
		if got := r.Bytes(c.n); string(got) != c.want || r.Left() != c.left {
			t.Errorf("Bytes(%d): %q, left %d", c.n, got, r.Left())
		}
	}
	for _, n := range []int{5, 6, math.MaxInt} {
		r := num.Read([]byte("abcd"))
		if got := r.Bytes(n); len(got) != 0 {
			t.Errorf("Bytes(%d): %q", n, got)
		}
		dead(t, r, api.ErrEnd)
	}
}

func TestBytesOfNothing(t *testing.T) {
	r := num.Read(nil)
	if len(r.Bytes(0)) != 0 || len(r.Bytes(-3)) != 0 || r.End() != api.OK {
		t.Errorf("End %d", r.End())
	}
	if len(r.Bytes(1)) != 0 || r.End() != api.ErrEnd {
		t.Errorf("End %d", r.End())
	}
}

func TestReadsGoOn(t *testing.T) {
	r := num.Read([]byte("\x01\x2c\x00\x02ab\x07\x00\x00xyz"))
	if n := r.Num(2); n != 300 {
		t.Errorf("%d", n)
	}
	if b := r.Text(2); string(b) != "ab" {
		t.Errorf("%q", b)
	}
	if b := r.Bytes(-1); len(b) != 0 {
		t.Errorf("%q", b)
	}
	if n := r.Num(0); n != 7 {
		t.Errorf("%d", n)
	}
	if b := r.Text(0); len(b) != 0 {
		t.Errorf("%q", b)
	}
	if b := r.Bytes(2); string(b) != "xy" {
		t.Errorf("%q", b)
	}
	if b := r.Bytes(1); string(b) != "z" || r.End() != api.OK {
		t.Errorf("%q, End %d", b, r.End())
	}
}

func TestFail(t *testing.T) {
	for _, e := range []api.Errno{api.ErrEnd, api.ErrForm, api.ErrNil, api.ErrLine, 99, -1} {
		r := num.Read([]byte("abc"))
		r.Num(1)
		r.Fail(e)
		dead(t, r, e)
	}
}

func TestFailWithOKIsNone(t *testing.T) {
	r := num.Read([]byte("abc"))
	r.Fail(api.OK)
	if r.Left() != 3 || r.End() != api.ErrForm || string(r.Bytes(3)) != "abc" || r.End() != api.OK {
		t.Errorf("left %d, End %d", r.Left(), r.End())
	}
	r.Fail(api.OK)
	if r.End() != api.OK {
		t.Errorf("End %d", r.End())
	}
}

func TestFailsOnce(t *testing.T) {
	for _, c := range []struct {
		fail func(r *num.Reader)
		want api.Errno
	}{
		{func(r *num.Reader) { r.Fail(api.ErrSize) }, api.ErrSize},
		{func(r *num.Reader) { r.Num(6) }, api.ErrEnd},
		{func(r *num.Reader) { r.Bytes(5) }, api.ErrEnd},
		{func(r *num.Reader) { r.Text(1) }, api.ErrFull},
		{func(r *num.Reader) { r.Text(2) }, api.ErrEnd},
	} {
		r := num.Read(text(2, "a"))
		c.fail(r)
		r.Fail(api.ErrForm)
		r.Fail(api.OK)
		r.Num(6)
		r.Text(-1)
		dead(t, r, c.want)
	}
}

// A reader that read all may still fail.
func TestFailsAtItsEnd(t *testing.T) {
	r := num.Read([]byte{1})
	if r.Num(1) != 1 || r.End() != api.OK {
		t.Errorf("End %d", r.End())
	}
	r.Fail(api.ErrRange)
	dead(t, r, api.ErrRange)
}

// P1.3.

func TestLeftAndEnd(t *testing.T) {
	r := num.Read([]byte("abc"))
	for left := 3; left > 0; left-- {
		if r.Left() != left || r.End() != api.ErrForm {
			t.Errorf("left %d, want %d, End %d", r.Left(), left, r.End())
		}
		r.Num(1)
	}
	if r.Left() != 0 || r.End() != api.OK {
		t.Errorf("left %d, End %d", r.Left(), r.End())
	}
	for _, b := range [][]byte{nil, {}} {
		if r := num.Read(b); r == nil || r.Left() != 0 || r.End() != api.OK {
			t.Errorf("of nothing: left %d, End %d", r.Left(), r.End())
		}
	}
}

func TestNilReader(t *testing.T) {
	var r *num.Reader
	for range 2 {
		if r.End() != api.ErrNil || r.Left() != 0 || r.Num(1) != 0 || len(r.Text(9)) != 0 || len(r.Text(-1)) != 0 || len(r.Bytes(1)) != 0 || len(r.Bytes(-1)) != 0 {
			t.Error("a nil Reader reads")
		}
		r.Fail(api.ErrSize)
		r.Fail(api.OK)
	}
}

// R1: every call ends, and none panics, whatever it is given, in whatever order.
func TestNoPanic(t *testing.T) {
	odd := []int{math.MinInt, math.MinInt + 1, -65536, -2, -1, 0, 1, 2, 3, 5, 6, 7, 8, 9, 63, 64, 65, 65535, 65536, math.MaxInt - 1, math.MaxInt}
	for _, n := range odd {
		for _, m := range odd {
			if b := num.Put(nil, n, m); len(b) < 1 || len(b) > 6 {
				t.Errorf("Put(nil, %d, %d): %x", n, m, b)
			}
			for _, b := range [][]byte{nil, {0}, {0, 0}, {0, 1, 'a', 'b'}, bytes.Repeat([]byte{0xff}, 20)} {
				for order := range 3 {
					r := num.Read(b)
					for i := range 3 {
						switch (i + order) % 3 {
						case 0:
							r.Num(n)
						case 1:
							r.Text(m)
						case 2:
							r.Bytes(n)
						}
					}
					if r.Left() < 0 || r.Left() > len(b) {
						t.Errorf("left %d of %x", r.Left(), b)
					}
				}
			}
		}
	}
}

// R2: beside an error all else is zero, and the error that is named first is told.
func TestErrorsAreAlone(t *testing.T) {
	r := num.Read(text(9, "abc")) // both longer than most, and ending within
	if b := r.Text(4); len(b) != 0 || r.End() != api.ErrFull || r.Left() != 0 {
		t.Errorf("%x, End %d, left %d", b, r.End(), r.Left())
	}
	r = num.Read([]byte("abc"))
	if n := r.Num(4); n != 0 || r.End() != api.ErrEnd || r.Left() != 0 {
		t.Errorf("%d, End %d, left %d", n, r.End(), r.Left())
	}
}

// R3: nil and empty are one.
func TestNilAndEmpty(t *testing.T) {
	if !bytes.Equal(num.Put(nil, 5, 2), num.Put([]byte{}, 5, 2)) {
		t.Error("Put")
	}
	for _, b := range [][]byte{nil, {}} {
		for _, x := range [][]byte{nil, {}} {
			if string(num.Text(b, x)) != "\x00\x00" {
				t.Error("Text")
			}
		}
		if r := num.Read(b); r.Num(1) != 0 || r.End() != api.ErrEnd {
			t.Error("Read")
		}
	}
}

// R4: what is handed in isn't changed, spare room included; what is answered shares nothing with it.
func TestPutIsNewMemory(t *testing.T) {
	b, whole := roomy("ab")
	was := bytes.Clone(whole)
	x, y := num.Put(b, 300, 2), num.Put(b, 7, 6)
	if !bytes.Equal(whole, was) {
		t.Errorf("%x", whole)
	}
	fill(x, 0x55)
	if !bytes.Equal(whole, was) || string(y) != "ab\x00\x00\x00\x00\x00\x07" {
		t.Errorf("%x %x", whole, y)
	}
	fill(b, 0x66)
	if string(y) != "ab\x00\x00\x00\x00\x00\x07" {
		t.Errorf("%x", y)
	}
}

func TestTextIsNewMemory(t *testing.T) {
	b, whole := roomy("ab")
	in, wholeIn := roomy("xyz")
	was, wasIn := bytes.Clone(whole), bytes.Clone(wholeIn)
	x, y := num.Text(b, in), num.Text(b, in)
	fill(x, 0x55)
	if !bytes.Equal(whole, was) || !bytes.Equal(wholeIn, wasIn) || string(y) != "ab\x00\x03xyz" {
		t.Errorf("%x %x %x", whole, wholeIn, y)
	}
	fill(b, 0x66)
	fill(in, 0x77)
	if string(y) != "ab\x00\x03xyz" {
		t.Errorf("%x", y)
	}
}

// The text may lie in the spare room of what it goes behind.
func TestTextOfOneMemory(t *testing.T) {
	whole := []byte("abcdefgh")
	if x := num.Text(whole[:2], whole[2:6]); string(x) != "ab\x00\x04cdef" || string(whole) != "abcdefgh" {
		t.Errorf("%q %q", x, whole)
	}
	if x := num.Text(whole[:3], whole[:3]); string(x) != "abc\x00\x03abc" || string(whole) != "abcdefgh" {
		t.Errorf("%q %q", x, whole)
	}
}

func TestReaderKeepsACopy(t *testing.T) {
	b, whole := roomy("\x00\x02abcd")
	was := bytes.Clone(whole)
	r := num.Read(b)
	r.Text(2)
	r.Bytes(1)
	r.Fail(api.ErrSize)
	if !bytes.Equal(whole, was) {
		t.Errorf("%x", whole)
	}
	r = num.Read(b)
	fill(b, 0x66)
	if x := r.Text(2); string(x) != "ab" {
		t.Errorf("%q", x)
	}
	if x := r.Bytes(2); string(x) != "cd" {
		t.Errorf("%q", x)
	}
}

func TestReaderAnswersNewMemory(t *testing.T) {
	b := []byte("\x00\x02abcdefgh")
	r := num.Read(b)
	x := r.Text(2)
	y := r.Bytes(2)
	fill(x, 0x55) // neither what was answered, nor what is read next
	if string(y) != "cd" {
		t.Errorf("%q", y)
	}
	fill(y, 0x55)
	if z := r.Bytes(4); string(z) != "efgh" || string(b) != "\x00\x02abcdefgh" {
		t.Errorf("%q %q", z, b)
	}
}

// R5: an answer hangs on the arguments and the reader alone, not on spare room, nor on other readers.
func TestAnswersHangOnNothingElse(t *testing.T) {
	tight := []byte("\x00\x02abcd")
	wide, _ := roomy("\x00\x02abcd")
	if !bytes.Equal(num.Put(tight, 9, 3), num.Put(wide, 9, 3)) || !bytes.Equal(num.Text(tight, wide), num.Text(wide, tight)) {
		t.Error("spare room is told")
	}
	reads := func(r, other *num.Reader) []int {
		n := []int{len(r.Text(2)), r.Left()}
		other.Fail(api.ErrSize)
		n = append(n, r.Num(1), r.Left(), int(r.End()))
		return append(n, len(r.Bytes(2)), r.Left(), int(r.End()))
	}
	want := []int{2, 2, 'c', 1, int(api.ErrForm), 0, 0, int(api.ErrEnd)}
	for _, b := range [][]byte{tight, wide} {
		if got := reads(num.Read(b), num.Read(b)); !slices.Equal(got, want) {
			t.Errorf("%v, want %v", got, want)
		}
	}
}

// FuzzReader: what a reader tells is what stands in the bytes, told by their places alone.
func FuzzReader(f *testing.F) {
	f.Add([]byte("\x01\x2c\x00\x02ab\x07"), []byte{2, 10, 1, 20})
	f.Add([]byte("\x00\x05abc"), []byte{13})
	f.Add([]byte("\x00\x05abc"), []byte{19, 22})
	f.Fuzz(func(t *testing.T, b, calls []byte) {
		r, m := num.Read(b), model{b: b}
		for _, c := range calls {
			k := int(c)/3 - 2
			var got, want []byte
			switch c % 3 {
			case 0:
				got, want = num.Put(nil, r.Num(k), 6), num.Put(nil, m.num(k), 6)
			case 1:
				got, want = r.Text(k), m.text(k)
			case 2:
				got, want = r.Bytes(k), m.bytes(k)
			}
			if !bytes.Equal(got, want) || r.Left() != m.left() || r.End() != m.end() {
				t.Fatalf("%x %v: %x, want %x; left %d, want %d; End %d, want %d", b, calls, got, want, r.Left(), m.left(), r.End(), m.end())
			}
		}
	})
}

// model is a reader that keeps a place instead of cutting off what was read.
type model struct {
	b     []byte
	at    int
	fault api.Errno
}

func (m *model) bytes(n int) []byte {
	n = max(n, 0)
	if m.fault == api.OK && m.at+n > len(m.b) {
		m.fault = api.ErrEnd
	}
	if m.fault != api.OK {
		return nil
	}
	m.at += n
	return m.b[m.at-n : m.at]
}

func (m *model) num(w int) int {
	n := 0
	for _, b := range m.bytes(min(max(w, 1), 6)) {
		n = n*256 + int(b)
	}
	return n
}

func (m *model) text(most int) []byte {
	n := m.num(2)
	if m.fault == api.OK && n > most {
		m.fault = api.ErrFull
	}
	return m.bytes(n)
}

func (m *model) left() int {
	if m.fault != api.OK {
		return 0
	}
	return len(m.b) - m.at
}

func (m *model) end() api.Errno {
	if m.fault == api.OK && m.left() > 0 {
		return api.ErrForm
	}
	return m.fault
}
