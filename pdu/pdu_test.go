package pdu_test

import (
	"bytes"
	"hash/crc32"
	"math"
	"slices"
	"testing"

	"longeron/api"
	"longeron/pdu"
)

const (
	leastBytes = 5 // a kind and a sum
	sumSize    = 4
)

// field is a number of a message, by its name.
type field struct {
	name  string
	width int // in bytes
	of    func(p *api.Pdu) *int
}

// numbers are all numbers of a message but its kind.
func numbers() []field {
	return []field{
		{"Session", 2, func(p *api.Pdu) *int { return &p.Session }},
		{"Part", 1, func(p *api.Pdu) *int { return &p.Part }},
		{"No", 1, func(p *api.Pdu) *int { return &p.No }},
		{"Size", 2, func(p *api.Pdu) *int { return &p.Size }},
		{"What", 1, func(p *api.Pdu) *int { return &p.What }},
		{"Code", 1, func(p *api.Pdu) *int { return &p.Code }},
		{"Have", 2, func(p *api.Pdu) *int { return &p.Have }},
	}
}

// names are the fields that a kind has, as the chapter's table has them, but Data; nil of no kind.
func names(kind int) []string {
	switch kind {
	case 1:
		return []string{"Session", "Part", "Size"}
	case 2:
		return []string{"Session", "No"}
	case 3, 4, 5:
		return []string{"Session"}
	case 6:
		return []string{"Session", "What", "No"}
	case 7:
		return []string{"Session", "What", "No", "Code"}
	case 8:
		return []string{"Session", "Part", "Size", "Have"}
	}
	return nil
}

func isKind(kind int) bool { return names(kind) != nil }

// dataOf is how many bytes of Data a kind has.
func dataOf(kind int) int {
	if kind == 2 {
		return 16
	}
	return 0
}

// fieldsOf are the numbers that a kind has, in their order.
func fieldsOf(kind int) []field {
	var fs []field
	for _, n := range names(kind) {
		fs = append(fs, numbers()[slices.IndexFunc(numbers(), func(f field) bool { return f.name == n })])
	}
	return fs
}

func has(kind int, f field) bool { return slices.Contains(names(kind), f.name) }

// most is the greatest number of so many bytes.
func most(width int) int {
	if width == 2 {
		return 65535
	}
	return 255
}

// isRight tells whether a message is right, as the chapter's words have it.
func isRight(p api.Pdu) bool {
	if !isKind(p.Kind) || len(p.Data) != dataOf(p.Kind) {
		return false
	}
	for _, f := range numbers() {
		n := *f.of(&p)
		if n < 0 || n > most(f.width) || n != 0 && !has(p.Kind, f) {
			return false
		}
	}
	return true
}

// told are a right message's bytes ahead of the sum.
func told(p api.Pdu) []byte {
	b := []byte{byte(p.Kind)}
	for _, f := range fieldsOf(p.Kind) {
		n := *f.of(&p)
		if f.width == 2 {
			b = append(b, byte(n/256))
		}
		b = append(b, byte(n%256))
	}
	return append(b, p.Data...)
}

func sumOf(b []byte) []byte {
	n := crc32.ChecksumIEEE(b)
	return []byte{byte(n >> 24), byte(n >> 16), byte(n >> 8), byte(n)}
}

// summed are the bytes, and their sum.
func summed(b []byte) []byte { return slices.Concat(b, sumOf(b)) }

func bytesOf(p api.Pdu) []byte { return summed(told(p)) }

// alike tells whether two messages are alike, number by number.
func alike(a, b api.Pdu) bool {
	for _, f := range numbers() {
		if *f.of(&a) != *f.of(&b) {
			return false
		}
	}
	return a.Kind == b.Kind && bytes.Equal(a.Data, b.Data)
}

// filled is a right message of that kind, of which of tells each number, and each byte of Data, by the place where it stands and how many bytes it has.
func filled(kind int, of func(at, width int) int) api.Pdu {
	p := api.Pdu{Kind: kind}
	for i, f := range fieldsOf(kind) {
		*f.of(&p) = of(i, f.width)
	}
	for i := range dataOf(kind) {
		p.Data = append(p.Data, byte(of(i+2, 1)))
	}
	return p
}

// ordinary has a number of its own in each field, and of those of two bytes unlike bytes.
func ordinary(kind int) api.Pdu {
	return filled(kind, func(at, width int) int { return (0x0102 + 0x0313*at) % (most(width) + 1) })
}

func least(kind int) api.Pdu { return filled(kind, func(int, int) int { return 0 }) }

func full(kind int) api.Pdu { return filled(kind, func(_, width int) int { return most(width) }) }

// messages are right ones, three of each kind.
func messages() []api.Pdu {
	var ps []api.Pdu
	for kind := 1; kind <= 8; kind++ {
		ps = append(ps, ordinary(kind), least(kind), full(kind))
	}
	return ps
}

// refused says whether Get refuses the bytes with that error.
func refused(t *testing.T, what string, b []byte, want api.Errno) {
	t.Helper()
	if p, e := pdu.Get(b); !alike(p, api.Pdu{}) || e != want {
		t.Errorf("%s: Get of %x: %v, %v; want %v", what, b, p, e, want)
	}
}

func taken(t *testing.T, what string, b []byte, want api.Pdu) {
	t.Helper()
	p, e := pdu.Get(b)
	if !alike(p, want) || e != api.OK {
		t.Errorf("%s: Get of %x: %v, %v; want %v", what, b, p, e, want)
	}
	if !isRight(p) || !pdu.Right(p) || !pdu.Same(p, want) {
		t.Errorf("%s: what is got of %x isn't right: %v", what, b, p)
	}
}

// judge says whether each call takes p for what it is.
func judge(t *testing.T, what string, p api.Pdu, want bool) {
	t.Helper()
	if isRight(p) != want {
		t.Fatalf("%s: the test's own words don't make %v %v", what, p, want)
	}
	if got := pdu.Right(p); got != want {
		t.Errorf("%s: Right of %v: %v", what, p, got)
	}
	b, e := pdu.Put(p)
	if !want {
		if len(b) != 0 || e != api.ErrRange {
			t.Errorf("%s: Put of %v: %x, %v", what, p, b, e)
		}
		return
	}
	if !bytes.Equal(b, bytesOf(p)) || e != api.OK {
		t.Errorf("%s: Put of %v: %x, %v; want %x", what, p, b, e, bytesOf(p))
	}
	taken(t, what, b, p)
}

// P8.1: what is right, and its bytes.

func TestOrdinary(t *testing.T) {
	for _, p := range messages() {
		judge(t, "right", p, true)
	}
	judge(t, "nothing", api.Pdu{}, false)
}

// Messages written out, and what they are, sums too, as they were told elsewhere.
func TestKnownBytes(t *testing.T) {
	for _, c := range []struct {
		p    api.Pdu
		want string
	}{
		{api.Pdu{Kind: api.POpen, Session: 258, Part: 3, Size: 160}, "\x01\x01\x02\x03\x00\xa0\x39\x67\x8e\x8c"},
		{api.Pdu{Kind: api.PBlock, Session: 65534, No: 9, Data: []byte("0123456789abcdef")}, "\x02\xff\xfe\x090123456789abcdef\xff\xbc\x5d\x52"},
		{api.Pdu{Kind: api.PDone, Session: 1}, "\x03\x00\x01\x8a\x00\x57\xdd"},
		{api.Pdu{Kind: api.PAbort}, "\x04\x00\x00\xf8\x48\x71\xce"},
		{api.Pdu{Kind: api.PAsk, Session: 65535}, "\x05\xff\xff\x47\xac\x09\x06"},
		{api.Pdu{Kind: api.PAck, Session: 772, What: 2, No: 9}, "\x06\x03\x04\x02\x09\x17\x34\xdf\xa9"},
		{api.Pdu{Kind: api.PNack, Session: 1286, What: 1, No: 255, Code: 17}, "\x07\x05\x06\x01\xff\x11\xb9\x1a\xf6\x00"},
		{api.Pdu{Kind: api.PStatus, Session: 258, Part: 3, Size: 1029, Have: 1543}, "\x08\x01\x02\x03\x04\x05\x06\x07\x5b\x4f\x73\x2a"},
	} {
		if b, e := pdu.Put(c.p); string(b) != c.want || e != api.OK {
			t.Errorf("Put of %v: %x, %v; want %x", c.p, b, e, c.want)
		}
		taken(t, "known", []byte(c.want), c.p)
	}
}

// The chapter's example.
func TestExample(t *testing.T) {
	b, e := pdu.Put(api.Pdu{Kind: api.PDone, Session: 1})
	if want := append([]byte{3, 0, 1}, sumOf([]byte{3, 0, 1})...); !bytes.Equal(b, want) || e != api.OK {
		t.Errorf("%x, %v; want %x", b, e, want)
	}
}

func TestLengths(t *testing.T) {
	for i, want := range []int{10, 24, 7, 7, 7, 9, 10, 12} {
		for _, p := range []api.Pdu{ordinary(i + 1), least(i + 1), full(i + 1)} {
			if b, e := pdu.Put(p); len(b) != want || e != api.OK {
				t.Errorf("Put of %v has %d bytes, %v; want %d", p, len(b), e, want)
			}
		}
	}
}

// around are numbers just within and just beyond these bytes, far beyond them, and where one of fewer bits would be within.
func around(width int) []int {
	n := most(width)
	ns := []int{0, 1, 2, n / 2, n - 1, n, -1, -2, -n, n + 1, n + 2, 2 * n, 2*n + 1, -n - 1, 127, 128, 255, 256, 257, 32767, 32768, 65535, 65536, 65537,
		math.MinInt, math.MinInt + 1, math.MinInt32, math.MaxInt32, math.MaxInt - 1, math.MaxInt}
	for _, bits := range []int{8, 16, 32, 62} {
		ns = append(ns, 1<<bits, 1<<bits+1, 1<<bits+n, -1<<bits, 1-1<<bits, n-1<<bits)
	}
	return ns
}

// Each field of each kind by itself: those that it has, and those that it hasn't.
func TestBounds(t *testing.T) {
	for _, p := range messages() {
		for _, f := range numbers() {
			for _, n := range around(f.width) {
				q := p
				*f.of(&q) = n
				judge(t, f.name, q, n == 0 || has(p.Kind, f) && n > 0 && n <= most(f.width))
			}
		}
	}
}

// Two fields at once, so that one doesn't make good another one.
func TestTwoFields(t *testing.T) {
	for kind := 1; kind <= 8; kind++ {
		for i, f := range numbers() {
			for _, g := range numbers()[:i] {
				for _, a := range []int{-1, 0, 1, most(f.width), most(f.width) + 1} {
					for _, b := range []int{-1, 0, 1, most(g.width), most(g.width) + 1} {
						p := ordinary(kind)
						*f.of(&p), *g.of(&p) = a, b
						judge(t, f.name+" and "+g.name, p, isRight(p))
					}
				}
			}
		}
	}
}

// wildKinds are numbers that are no kind.
func wildKinds() []int {
	ns := []int{math.MinInt, math.MinInt + 1, math.MinInt32, -65536, -256, -9, -8, -2, -1, 0, 9, 10, 15, 16, 17, 63, 64, 127, 128, 254, 255, 256,
		65536, math.MaxInt32, math.MaxInt - 1, math.MaxInt}
	for kind := 1; kind <= 8; kind++ {
		ns = append(ns, -kind, kind+256, kind+65536, kind+1<<32, kind-256, kind-1<<32, kind+math.MinInt)
	}
	return ns
}

func TestNoKinds(t *testing.T) {
	for _, kind := range wildKinds() {
		judge(t, "no kind, nothing else", api.Pdu{Kind: kind}, false)
		for _, p := range messages() {
			p.Kind = kind
			judge(t, "no kind", p, false)
		}
	}
}

// A message of one kind, told to be of another one.
func TestOtherKinds(t *testing.T) {
	for kind := 1; kind <= 8; kind++ {
		for _, p := range messages() {
			p.Kind = kind
			judge(t, "another kind", p, isRight(p))
		}
		p := ordinary(kind)
		for _, f := range numbers() {
			*f.of(&p) = 1
		}
		judge(t, "all fields", p, false)
	}
}

func TestData(t *testing.T) {
	for kind := 1; kind <= 8; kind++ {
		p := ordinary(kind)
		for n := range 40 {
			p.Data = bytes.Repeat([]byte{byte(n)}, n)
			judge(t, "Data", p, n == dataOf(kind))
			p.Data = make([]byte, n, 64)
			judge(t, "zeros, and room behind", p, n == dataOf(kind))
		}
		for _, n := range []int{255, 256, 256 + 16, 65536, 65536 + 16, 1 << 20} {
			p.Data = make([]byte, n)
			judge(t, "much Data", p, false)
		}
		p.Data = nil
		judge(t, "nil", p, dataOf(kind) == 0)
		p.Data = []byte{}
		judge(t, "empty", p, dataOf(kind) == 0)
	}
}

// P8.1: what is no message.

// Bytes that are too few, even where the sum of those ahead is right.
func TestFewBytes(t *testing.T) {
	refused(t, "nil", nil, api.ErrEnd)
	refused(t, "the sum of nothing", summed(nil), api.ErrEnd)
	for n := range leastBytes {
		for x := range 256 {
			refused(t, "few", bytes.Repeat([]byte{byte(x)}, n), api.ErrEnd)
			refused(t, "few, room behind", bytes.Repeat([]byte{byte(x)}, 30)[:n], api.ErrEnd)
		}
		for _, p := range messages() {
			refused(t, "few of a message", bytesOf(p)[:n], api.ErrEnd)
		}
	}
	for x := range 256 {
		b := []byte{byte(x)}
		refused(t, "a kind, no sum", slices.Concat(b, make([]byte, sumSize)), api.ErrDigest)
		if isKind(x) {
			refused(t, "a kind alone", summed(b), api.ErrEnd)
		} else {
			refused(t, "no kind alone", summed(b), api.ErrForm)
		}
	}
}

// Any one byte, turned to each other value.
func TestTurnedBytes(t *testing.T) {
	for _, p := range messages() {
		b := bytesOf(p)
		for at := range b {
			for n := 1; n < 256; n++ {
				c := slices.Clone(b)
				c[at] ^= byte(n)
				refused(t, "turned", c, api.ErrDigest)
			}
		}
	}
}

func TestTwoTurnedBits(t *testing.T) {
	for kind := 1; kind <= 8; kind++ {
		b := bytesOf(ordinary(kind))
		for one := range 8 * len(b) {
			for two := range one {
				c := slices.Clone(b)
				c[one/8] ^= 1 << (one % 8)
				c[two/8] ^= 1 << (two % 8)
				refused(t, "turned twice", c, api.ErrDigest)
			}
		}
	}
}

// wrongSums are sums that aren't those of the bytes: of less, of more, turned over, from the lowest byte on, zero, one beside it.
func wrongSums(b []byte) [][]byte {
	sum := sumOf(b)
	over, about, beside := slices.Clone(sum), slices.Clone(sum), slices.Clone(sum)
	for i := range over {
		over[i] = ^over[i]
	}
	slices.Reverse(about)
	beside[3]++
	return [][]byte{sumOf(b[1:]), sumOf(b[:len(b)-1]), sumOf(append(b, 0)), sumOf(summed(b)), over, about, beside, make([]byte, sumSize)}
}

func TestWrongSums(t *testing.T) {
	for _, p := range messages() {
		for _, sum := range wrongSums(told(p)) {
			refused(t, "a wrong sum", slices.Concat(told(p), sum), api.ErrDigest)
		}
		refused(t, "the sum ahead", slices.Concat(sumOf(told(p)), told(p)), api.ErrDigest)
	}
}

// Bytes that are cut anywhere.
func TestCut(t *testing.T) {
	for _, p := range messages() {
		b := bytesOf(p)
		for n := leastBytes; n < len(b); n++ {
			refused(t, "cut behind", b[:n], api.ErrDigest)
			refused(t, "cut behind, no room", slices.Clone(b[:n]), api.ErrDigest)
			refused(t, "cut ahead", b[len(b)-n:], api.ErrDigest)
		}
		for n := range len(told(p)) {
			refused(t, "cut, and summed", summed(told(p)[:n]), api.ErrEnd)
		}
		for from := range len(b) {
			for to := from; to <= len(b); to++ {
				got(t, b[from:to])
				got(t, summed(b[from:to]))
			}
		}
	}
}

// Bytes that have more behind them, or ahead.
func TestMore(t *testing.T) {
	for _, p := range messages() {
		b, ahead := bytesOf(p), told(p)
		for _, n := range []int{1, 2, 3, 4, 5, 15, 16, 17, 240, 256, 65536} {
			for _, more := range [][]byte{make([]byte, n), bytes.Repeat([]byte{0xff}, n), bytes.Repeat(b, n)[:n]} {
				refused(t, "more behind", slices.Concat(b, more), api.ErrDigest)
				refused(t, "more behind, summed", summed(slices.Concat(ahead, more)), api.ErrForm)
				refused(t, "more behind the sum, summed", summed(slices.Concat(b, more)), api.ErrForm)
				got(t, slices.Concat(more, b))
				got(t, summed(slices.Concat(more, ahead)))
			}
		}
		refused(t, "twice", slices.Concat(b, b), api.ErrDigest)
		refused(t, "twice, summed", summed(slices.Concat(b, b)), api.ErrForm)
		refused(t, "summed twice", summed(b), api.ErrForm)
	}
}

// No such kind, under a right sum, however many bytes are behind it.
func TestUnknownKinds(t *testing.T) {
	for kind := range 256 {
		if isKind(kind) {
			continue
		}
		for n := range 40 {
			refused(t, "no kind", summed(append([]byte{byte(kind)}, make([]byte, n)...)), api.ErrForm)
			refused(t, "no kind", summed(bytes.Repeat([]byte{byte(kind)}, n+1)), api.ErrForm)
		}
		for _, p := range messages() {
			b := told(p)
			b[0] = byte(kind)
			refused(t, "no kind, else a message", summed(b), api.ErrForm)
		}
	}
}

// Each kind with each number of bytes behind it.
func TestEachLength(t *testing.T) {
	for kind := 1; kind <= 8; kind++ {
		want := len(told(ordinary(kind)))
		for n := 1; n < 60; n++ {
			b := append([]byte{byte(kind)}, bytes.Repeat([]byte{0x5a}, n-1)...)
			switch {
			case n < want:
				refused(t, "too few", summed(b), api.ErrEnd)
			case n > want:
				refused(t, "too many", summed(b), api.ErrForm)
			default:
				got(t, summed(b))
			}
		}
	}
}

// Whatever stands at one place under a right sum, the bytes are taken for what they tell, or refused.
func TestEachByteUnderARightSum(t *testing.T) {
	for _, p := range messages() {
		for at := range told(p) {
			for n := range 256 {
				b := told(p)
				b[at] = byte(n)
				got(t, summed(b))
			}
		}
	}
}

// got says whether Get takes the bytes for what they are: read here place by place.
func got(t *testing.T, b []byte) {
	t.Helper()
	if len(b) < leastBytes {
		refused(t, "got", b, api.ErrEnd)
		return
	}
	ahead, sum := b[:len(b)-sumSize], b[len(b)-sumSize:]
	if !bytes.Equal(sum, sumOf(ahead)) {
		refused(t, "got", b, api.ErrDigest)
		return
	}
	p := api.Pdu{Kind: int(ahead[0])}
	if !isKind(p.Kind) {
		refused(t, "got", b, api.ErrForm)
		return
	}
	at := 1
	for _, f := range fieldsOf(p.Kind) {
		for range f.width {
			if at < len(ahead) {
				*f.of(&p) = *f.of(&p)*256 + int(ahead[at])
			}
			at++
		}
	}
	end := at + dataOf(p.Kind)
	switch {
	case end > len(ahead):
		refused(t, "got", b, api.ErrEnd)
	case end < len(ahead):
		refused(t, "got", b, api.ErrForm)
	default:
		p.Data = ahead[at:end]
		judge(t, "got", p, true)
		taken(t, "got", b, p)
		if c, e := pdu.Put(p); !bytes.Equal(b, c) || e != api.OK {
			t.Errorf("Put of what was got of %x: %x, %v", b, c, e)
		}
	}
}

// P8.2.

func TestAsks(t *testing.T) {
	for kind := -300; kind <= 300; kind++ {
		if got := pdu.Asks(api.Pdu{Kind: kind}); got != (kind >= 1 && kind <= 5) {
			t.Errorf("Asks of kind %d: %v", kind, got)
		}
	}
	for _, kind := range wildKinds() {
		if pdu.Asks(api.Pdu{Kind: kind}) {
			t.Errorf("Asks of kind %d", kind)
		}
	}
	for _, p := range messages() {
		if got := pdu.Asks(p); got != slices.Contains([]int{api.POpen, api.PBlock, api.PDone, api.PAbort, api.PAsk}, p.Kind) {
			t.Errorf("Asks of %v: %v", p, got)
		}
	}
}

// The kind alone tells whether a message asks: whether it is right, or of what it tells it is an answer, doesn't matter.
func TestAsksOfTheKindAlone(t *testing.T) {
	for kind := -1; kind <= 10; kind++ {
		for _, n := range []int{math.MinInt, -1, 1, 5, 6, 65536, math.MaxInt} {
			p := api.Pdu{Kind: kind, Session: n, Part: n, No: n, Size: n, What: n, Code: n, Have: n, Data: make([]byte, 3)}
			if got := pdu.Asks(p); got != (kind >= 1 && kind <= 5) {
				t.Errorf("Asks of %v: %v", p, got)
			}
		}
	}
}

// bothWays says whether Same holds a and b for alike, whichever is named first.
func bothWays(t *testing.T, what string, a, b api.Pdu, want bool) {
	t.Helper()
	if pdu.Same(a, b) != want || pdu.Same(b, a) != want {
		t.Errorf("%s: Same of %v and %v: %v, %v", what, a, b, pdu.Same(a, b), pdu.Same(b, a))
	}
}

// unlike are messages that differ from p in one field each.
func unlike(p api.Pdu) []api.Pdu {
	var ps []api.Pdu
	for _, f := range append(numbers(), field{"Kind", 1, func(p *api.Pdu) *int { return &p.Kind }}) {
		for _, by := range []int{1, -1, 256, 65536, 1 << 32, math.MinInt} {
			q := p
			*f.of(&q) += by
			ps = append(ps, q)
		}
	}
	for at := range p.Data {
		for _, by := range []byte{1, 0x80, 0xff} {
			q := p
			q.Data = slices.Clone(p.Data)
			q.Data[at] ^= by
			ps = append(ps, q)
		}
		q := p
		q.Data = p.Data[:at]
		ps = append(ps, q)
	}
	for _, more := range []byte{0, 1} {
		q := p
		q.Data = append(slices.Clone(p.Data), more)
		ps = append(ps, q)
	}
	return ps
}

func TestSame(t *testing.T) {
	for i, p := range messages() {
		for j, q := range messages() {
			bothWays(t, "messages", p, q, i == j)
		}
		for _, q := range unlike(p) {
			bothWays(t, "unlike in one thing", p, q, false)
		}
	}
}

// Messages that aren't right are alike as well, or aren't.
func TestSameOfWrongOnes(t *testing.T) {
	for _, n := range []int{math.MinInt, -1, 0, 1, 9, 256, 65536, math.MaxInt} {
		wrong := func() api.Pdu {
			return api.Pdu{Kind: n, Session: n, Part: n, No: n, Size: n, What: n, Code: n, Have: n, Data: []byte("a wrong one")}
		}
		bothWays(t, "wrong ones", wrong(), wrong(), true)
		for _, q := range unlike(wrong()) {
			bothWays(t, "wrong ones, unlike in one thing", wrong(), q, false)
		}
	}
	a := api.Pdu{Kind: 1, Session: 2, Part: 3, No: 4, Size: 5, What: 6, Code: 7, Have: 8}
	for i, f := range numbers() {
		for _, g := range numbers()[:i] {
			b := a
			*f.of(&b), *g.of(&b) = *g.of(&a), *f.of(&a)
			bothWays(t, f.name+" and "+g.name+" for each other", a, b, false)
		}
	}
}

// R3: nil and empty are one, and what is behind Data doesn't matter.
func TestSameOfNoData(t *testing.T) {
	for _, p := range append(messages(), api.Pdu{}) {
		q, r := p, p
		p.Data, q.Data, r.Data = nil, []byte{}, make([]byte, 0, 16)
		bothWays(t, "nil and nil", p, p, true)
		bothWays(t, "nil and empty", p, q, true)
		bothWays(t, "nil and empty with room", p, r, true)
		bothWays(t, "empty and empty with room", q, r, true)
	}
	a, b := ordinary(api.PBlock), ordinary(api.PBlock)
	b.Data = append(slices.Clone(b.Data), "more"...)[:16]
	bothWays(t, "room behind", a, b, true)
}

// P8.3.

// Each number of each field is put and got.
func TestWhatIsPutIsGot(t *testing.T) {
	for kind := 1; kind <= 8; kind++ {
		for _, f := range fieldsOf(kind) {
			for n := 0; n <= most(f.width); n += 1 + f.width/2*96 {
				p := ordinary(kind)
				*f.of(&p) = n
				putAndGot(t, p)
				p = least(kind)
				*f.of(&p) = n
				putAndGot(t, p)
			}
		}
	}
	for at := range 16 {
		for n := range 256 {
			p := ordinary(api.PBlock)
			p.Data[at] = byte(n)
			putAndGot(t, p)
		}
	}
}

func putAndGot(t *testing.T, p api.Pdu) {
	t.Helper()
	b, e := pdu.Put(p)
	if q, f := pdu.Get(b); !alike(p, q) || !pdu.Same(p, q) || !pdu.Right(q) || e != api.OK || f != api.OK {
		t.Errorf("%v: got %v, %v, %v", p, q, e, f)
	}
}

// No two messages have the same bytes.
func TestBytesTellTheMessage(t *testing.T) {
	seen := map[string]api.Pdu{}
	for _, p := range messages() {
		for _, q := range append(unlike(p), p) {
			b, e := pdu.Put(q)
			if e != api.OK {
				continue
			}
			if r, ok := seen[string(b)]; ok && !alike(q, r) {
				t.Errorf("%v and %v: both %x", q, r, b)
			}
			seen[string(b)] = q
		}
	}
}

// The rules. R1: each call ends, and none panics, at all arguments.

func TestWildNumbers(t *testing.T) {
	wild := []int{math.MinInt, math.MinInt + 1, -65536, -1, 0, 1, 8, 9, 63, 64, 65, 255, 256, 65535, 65536, math.MaxInt - 1, math.MaxInt}
	for _, a := range wild {
		for _, b := range wild {
			for kind := -1; kind <= 9; kind++ {
				for _, d := range [][]byte{nil, make([]byte, 16), make([]byte, 17)} {
					for _, p := range []api.Pdu{
						{Kind: kind, Session: a, Data: d},
						{Kind: kind, Session: a, Part: b, Size: a, Data: d},
						{Kind: kind, Session: a, No: b, Data: d},
						{Kind: kind, Session: a, What: b, No: a, Code: b, Data: d},
						{Kind: kind, Session: b, Part: a, Size: b, Have: a, Data: d},
						{Kind: a, Session: b, Part: a, No: b, Size: a, What: b, Code: a, Have: b, Data: d},
					} {
						judge(t, "wild", p, isRight(p))
					}
				}
			}
		}
	}
}

func TestLongBytes(t *testing.T) {
	for x := range 10 {
		b := bytes.Repeat([]byte{byte(x)}, 1<<18)
		refused(t, "long", b, api.ErrDigest)
		refused(t, "long, summed", summed(b), api.ErrForm)
	}
}

// R2: of several errors the one that P8.1 names first is told.
func TestErrorsInOrder(t *testing.T) {
	sum := []byte{1, 2, 3, 4}
	for _, c := range []struct {
		what string
		b    []byte
		want api.Errno
	}{
		{"too few, a wrong sum, no kind", []byte{0, 1, 2, 3}, api.ErrEnd},
		{"too few, a wrong sum, a kind", []byte{3, 0, 1, 2}, api.ErrEnd},
		{"a wrong sum, no kind, nothing behind", slices.Concat([]byte{9}, sum), api.ErrDigest},
		{"a wrong sum, no kind", slices.Concat([]byte{9, 0, 1}, sum), api.ErrDigest},
		{"a wrong sum, a kind, too few behind", slices.Concat([]byte{3, 0}, sum), api.ErrDigest},
		{"a wrong sum, a kind, too many behind", slices.Concat([]byte{3, 0, 1, 0}, sum), api.ErrDigest},
		{"no kind, nothing behind", summed([]byte{9}), api.ErrForm},
		{"no kind, much behind", summed(make([]byte, 99)), api.ErrForm},
		{"a kind, too few behind", summed([]byte{3, 0}), api.ErrEnd},
		{"a block without Data", summed([]byte{2, 0, 1, 0}), api.ErrEnd},
		{"a kind, too many behind", summed([]byte{3, 0, 1, 0}), api.ErrForm},
	} {
		refused(t, c.what, c.b, c.want)
	}
	for _, p := range []api.Pdu{{Kind: 9, Session: -1, Part: 256, Data: make([]byte, 3)}, {Kind: 3, Session: 65536, No: -1, Data: make([]byte, 16)}} {
		judge(t, "several things", p, false)
	}
}

// R3: what has no meaning in a message is zero, though the bytes ahead told more.
func TestOtherFieldsAreZero(t *testing.T) {
	for kind := 1; kind <= 8; kind++ {
		pdu.Get(bytesOf(full(api.PStatus)))
		pdu.Get(bytesOf(full(api.PBlock)))
		p, e := pdu.Get(bytesOf(full(kind)))
		for _, f := range numbers() {
			if n := *f.of(&p); e != api.OK || n != 0 && !has(kind, f) {
				t.Errorf("kind %d: %s is %d, %v", kind, f.name, n, e)
			}
		}
		if len(p.Data) != dataOf(kind) {
			t.Errorf("kind %d: Data has %d bytes", kind, len(p.Data))
		}
	}
}

// roomy is b with room behind it, and all of that.
func roomy(b []byte) (part, whole []byte) {
	whole = append(slices.Clone(b), bytes.Repeat([]byte{0xee}, 100)...)
	return whole[:len(b)], whole
}

// R4: what is handed in stays as it was, the room behind it, too.
func TestChangesNothing(t *testing.T) {
	for _, p := range messages() {
		for n := range 20 {
			d, whole := roomy(bytes.Repeat([]byte{byte(n)}, n))
			was := slices.Clone(whole)
			q := p
			q.Data = d
			pdu.Right(q)
			pdu.Put(q)
			pdu.Asks(q)
			pdu.Same(q, p)
			pdu.Same(p, q)
			if !bytes.Equal(whole, was) {
				t.Fatalf("Data %x was %x", whole, was)
			}
		}
		for _, b := range [][]byte{bytesOf(p), told(p), summed(told(p)[1:]), summed(bytesOf(p))} {
			_, whole := roomy(b)
			was := slices.Clone(whole)
			for n := range len(whole) + 1 {
				pdu.Get(whole[:n])
			}
			if !bytes.Equal(whole, was) {
				t.Fatalf("%x was %x", whole, was)
			}
		}
	}
}

// spoil writes over all of b, spare room included.
func spoil(b []byte) {
	for i := range b[:cap(b)] {
		b[:cap(b)][i] = 0xee
	}
}

// R4: what is answered is new memory, and nothing that is handed in is kept.
func TestAnswersAreNew(t *testing.T) {
	for _, p := range messages() {
		d, whole := roomy(p.Data)
		q := p
		q.Data = d
		b, _ := pdu.Put(q)
		c, _ := pdu.Put(q)
		was := slices.Clone(whole)
		spoil(b)
		if !bytes.Equal(whole, was) || !bytes.Equal(c, bytesOf(p)) {
			t.Errorf("Put of %v shares what it answers", p)
		}
		spoil(whole)
		if !bytes.Equal(c, bytesOf(p)) {
			t.Errorf("Put of %v shares what it was given", p)
		}
		x, _ := pdu.Get(c)
		y, _ := pdu.Get(c)
		spoil(x.Data)
		if !bytes.Equal(c, bytesOf(p)) || !alike(y, p) {
			t.Errorf("Get of %v shares what it answers", p)
		}
		spoil(c)
		if !alike(y, p) {
			t.Errorf("Get of %v shares what it was given", p)
		}
		judge(t, "at last", p, true)
	}
}

// R5: what was asked ahead doesn't matter, nor does the room behind what is handed in.
func TestAsksLeaveNothing(t *testing.T) {
	for range 3 {
		for _, p := range messages() {
			judge(t, "again", p, true)
			b, _ := roomy(bytesOf(p))
			taken(t, "with room behind", b, p)
			q := p
			q.Data, _ = roomy(p.Data)
			judge(t, "Data with room behind", q, true)
			q.Session = 65536
			judge(t, "wrong between", q, false)
			refused(t, "nothing between", nil, api.ErrEnd)
			refused(t, "no kind between", summed([]byte{0}), api.ErrForm)
		}
	}
}

// FuzzGet: whatever the bytes are, with a sum of their own and without, they are taken for what they tell.
func FuzzGet(f *testing.F) {
	for _, p := range append(messages(), api.Pdu{}) {
		f.Add(bytesOf(p))
		f.Add(told(p))
	}
	f.Fuzz(func(t *testing.T, b []byte) {
		got(t, b)
		got(t, summed(b))
		for kind := range 10 {
			got(t, summed(append([]byte{byte(kind)}, b...)))
		}
	})
}
