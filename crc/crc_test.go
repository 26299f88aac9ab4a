package crc_test

import (
	"bytes"
	"hash/crc32"
	"slices"
	"testing"

	"longeron/crc"
)

// registers are those that the tests feed: all zeros, all ones, one bit at either end, others.
var registers = []uint32{0, 0xffffffff, 1, 0x80000000, 0xedb88320, 0xcbf43926, 0x000000ff, 0xffffff00, 0x12345678}

// known are sums that were told elsewhere.
var known = []struct {
	b    string
	want uint32
}{
	{"", 0x00000000},
	{"123456789", 0xcbf43926},
	{"a", 0xe8b7be43},
	{"abc", 0x352441c2},
	{"The quick brown fox jumps over the lazy dog", 0x414fa339},
	{"\x00", 0xd202ef8d},
	{"\xff", 0xff000000},
	{"\x00\x00\x00\x00", 0x2144df1c},
	{"\xff\xff\xff\xff", 0xffffffff},
}

// bitwise is the register behind the bytes, without a table: as the chapter's words tell it, bit by bit.
func bitwise(state uint32, b []byte) uint32 {
	for _, x := range b {
		state ^= uint32(x)
		for i := 0; i < 8; i++ {
			if state%2 == 1 {
				state = state/2 ^ 0xedb88320
			} else {
				state /= 2
			}
		}
	}
	return state
}

// mixed is n bytes, no two places alike in what stands around them.
func mixed(n int) []byte {
	b := make([]byte, n)
	for i := range b {
		b[i] = byte(i*i*7 + i*31 + i>>8)
	}
	return b
}

// tables are those of which the chapter says that they answer alike.
func tables() map[string]*crc.Table {
	return map[string]*crc.Table{"made": crc.Make(), "nil": nil}
}

// P2.1.

func TestMake(t *testing.T) {
	x := crc.Make()
	if x == nil {
		t.Fatal("no table")
	}
	for n := range 256 {
		if want := bitwise(uint32(n), []byte{0}); x[n] != want {
			t.Errorf("%d: %08x, want %08x", n, x[n], want)
		}
		if want := crc32.IEEETable[n]; x[n] != want {
			t.Errorf("%d: %08x, want %08x", n, x[n], want)
		}
	}
	for n, want := range map[int]uint32{0: 0, 1: 0x77073096, 2: 0xee0e612c, 16: 0x1db71064, 64: 0x76dc4190, 128: 0xedb88320, 255: 0x2d02ef8d} {
		if x[n] != want {
			t.Errorf("%d: %08x, want %08x", n, x[n], want)
		}
	}
}

func TestBegin(t *testing.T) {
	if crc.Begin() != 0xffffffff {
		t.Errorf("%08x", crc.Begin())
	}
}

func TestEnd(t *testing.T) {
	for state, want := range map[uint32]uint32{
		0: 0xffffffff, 0xffffffff: 0, 1: 0xfffffffe, 0x80000000: 0x7fffffff, 0x12345678: 0xedcba987, 0x340bc6d9: 0xcbf43926,
	} {
		if got := crc.End(state); got != want {
			t.Errorf("End(%08x): %08x, want %08x", state, got, want)
		}
	}
}

func TestSum(t *testing.T) {
	for name, x := range tables() {
		for _, c := range known {
			if got := x.Sum([]byte(c.b)); got != c.want {
				t.Errorf("%s: %q: %08x, want %08x", name, c.b, got, c.want)
			}
		}
	}
}

func TestSumOfEachByte(t *testing.T) {
	for name, x := range tables() {
		for n := range 256 {
			b := []byte{byte(n)}
			if got, want := x.Sum(b), ^bitwise(0xffffffff, b); got != want {
				t.Errorf("%s: %x: %08x, want %08x", name, b, got, want)
			}
		}
	}
}

func TestSumOfEachLength(t *testing.T) {
	long := mixed(600)
	for name, x := range tables() {
		for n := range len(long) + 1 {
			if got, want := x.Sum(long[:n]), crc32.ChecksumIEEE(long[:n]); got != want {
				t.Errorf("%s: %d bytes: %08x, want %08x", name, n, got, want)
			}
		}
	}
}

func TestFeedOfNothing(t *testing.T) {
	for name, x := range tables() {
		for _, s := range registers {
			if x.Feed(s, nil) != s || x.Feed(s, []byte{}) != s {
				t.Errorf("%s: Feed(%08x) of nothing: %08x %08x", name, s, x.Feed(s, nil), x.Feed(s, []byte{}))
			}
		}
	}
}

func TestFeedOfEachByte(t *testing.T) {
	for name, x := range tables() {
		for _, s := range registers {
			for n := range 256 {
				b := []byte{byte(n)}
				if got, want := x.Feed(s, b), bitwise(s, b); got != want {
					t.Errorf("%s: Feed(%08x, %x): %08x, want %08x", name, s, b, got, want)
				}
			}
		}
	}
}

func TestFeedKnown(t *testing.T) {
	for name, x := range tables() {
		for _, c := range []struct {
			state uint32
			b     string
			want  uint32
		}{
			{0, "\x00", 0}, // zeros don't wake a register of zeros
			{0, "\x00\x00\x00\x00\x00", 0},
			{0, "\x01", 0x77073096},
			{0xffffffff, "\xff", 0x00ffffff},
			{0xffffffff, "\xff\xff\xff\xff", 0},
			{0xffffffff, "\x00", 0x2dfd1072},
			{0xffffffff, "123456789", 0x340bc6d9},
			{0x00000100, "\x00", 0x00000001},
			{0x80000000, "\x00", 0x00800000},
		} {
			if got := x.Feed(c.state, []byte(c.b)); got != c.want {
				t.Errorf("%s: Feed(%08x, %q): %08x, want %08x", name, c.state, c.b, got, c.want)
			}
		}
	}
}

// The sum is what Begin, Feed and End make one behind the other.
func TestSumOfItsParts(t *testing.T) {
	for name, x := range tables() {
		for _, c := range known {
			if got := crc.End(x.Feed(crc.Begin(), []byte(c.b))); got != c.want {
				t.Errorf("%s: %q: %08x, want %08x", name, c.b, got, c.want)
			}
		}
	}
}

// P2.2.

// Each place to cut at, the ends too, where a piece is empty.
func TestTwoPieces(t *testing.T) {
	long := mixed(300)
	for name, x := range tables() {
		want := x.Sum(long)
		for cut := range len(long) + 1 {
			if got := crc.End(x.Feed(x.Feed(crc.Begin(), long[:cut]), long[cut:])); got != want {
				t.Errorf("%s: cut at %d: %08x, want %08x", name, cut, got, want)
			}
		}
	}
}

// Pieces of each length, with empty ones ahead, between and behind.
func TestPiecesOfEachLength(t *testing.T) {
	long := mixed(100)
	for name, x := range tables() {
		for _, begin := range registers {
			want := bitwise(begin, long)
			for n := 1; n <= len(long); n++ {
				state := x.Feed(begin, nil)
				for piece := range slices.Chunk(long, n) {
					state = x.Feed(x.Feed(state, piece), []byte{})
				}
				if state != want {
					t.Errorf("%s: pieces of %d from %08x: %08x, want %08x", name, n, begin, state, want)
				}
			}
		}
	}
}

func TestPiecesOfTheExample(t *testing.T) {
	b := []byte("123456789")
	for name, x := range tables() {
		for cuts := range 1 << (len(b) - 1) { // a bit each: whether a piece ends behind that byte
			state, from := crc.Begin(), 0
			for i := range b {
				if i == len(b)-1 || cuts>>i&1 == 1 {
					state = x.Feed(state, b[from:i+1])
					from = i + 1
				}
			}
			if got := crc.End(state); got != 0xcbf43926 {
				t.Errorf("%s: cuts %08b: %08x", name, cuts, got)
			}
		}
	}
}

// Pieces need not go through one table.
func TestPiecesOfSeveralTables(t *testing.T) {
	all := []*crc.Table{crc.Make(), nil, crc.Make()}
	state := crc.Begin()
	for i, c := range []byte("123456789") {
		state = all[i%len(all)].Feed(state, []byte{c})
	}
	if got := crc.End(state); got != 0xcbf43926 {
		t.Errorf("%08x", got)
	}
}

// R1 and R2: a nil Table is no error, in either of its calls: it neither panics nor answers zero.
func TestNilTable(t *testing.T) {
	var none *crc.Table
	for range 2 {
		if got := none.Sum([]byte("123456789")); got != 0xcbf43926 {
			t.Errorf("Sum: %08x", got)
		}
		if got := none.Feed(0xffffffff, []byte("123456789")); got != 0x340bc6d9 {
			t.Errorf("Feed: %08x", got)
		}
		if none.Sum(nil) != 0 || none.Feed(7, nil) != 7 {
			t.Errorf("of nothing: %08x %08x", none.Sum(nil), none.Feed(7, nil))
		}
	}
}

// R1: long ones end too, and wrap round nowhere.
func TestLong(t *testing.T) {
	for _, b := range [][]byte{make([]byte, 1<<20+1), bytes.Repeat([]byte{0xff}, 1<<20+1), mixed(1<<20 + 1)} {
		for name, x := range tables() {
			if got, want := x.Sum(b), crc32.ChecksumIEEE(b); got != want {
				t.Errorf("%s: %08x, want %08x", name, got, want)
			}
		}
	}
}

// R3: nil and empty are one.
func TestNilAndEmpty(t *testing.T) {
	for name, x := range tables() {
		if x.Sum(nil) != x.Sum([]byte{}) || x.Sum(nil) != 0 {
			t.Errorf("%s: %08x %08x", name, x.Sum(nil), x.Sum([]byte{}))
		}
		if s := crc.Begin(); x.Feed(s, nil) != x.Feed(s, []byte{}) {
			t.Errorf("%s: %08x %08x", name, x.Feed(s, nil), x.Feed(s, []byte{}))
		}
	}
}

// R4: what is handed in isn't changed, spare room included, nor kept; the table is only read.
func TestChangesNothing(t *testing.T) {
	for name, x := range tables() {
		whole := mixed(64)
		was := bytes.Clone(whole)
		x.Sum(whole[:9])
		x.Feed(1, whole[:20])
		if !bytes.Equal(whole, was) {
			t.Errorf("%s: %x", name, whole)
		}
		state := x.Feed(crc.Begin(), whole[:9])
		clear(whole)
		if got := crc.End(x.Feed(state, was[9:])); got != crc32.ChecksumIEEE(was) {
			t.Errorf("%s: the bytes were kept: %08x", name, got)
		}
		if x != nil && *x != *crc.Make() {
			t.Errorf("%s: the table was changed", name)
		}
	}
}

// R4: each table is new memory: who writes into one changes neither another nor what a nil one answers.
func TestMakeIsNewMemory(t *testing.T) {
	x, y := crc.Make(), crc.Make()
	if x == y {
		t.Error("one table was handed out twice")
	}
	clear(x[:])
	var none *crc.Table
	for name, z := range map[string]*crc.Table{"other": y, "next": crc.Make(), "nil": none} {
		if got := z.Sum([]byte("123456789")); got != 0xcbf43926 {
			t.Errorf("%s: %08x", name, got)
		}
	}
	clear(y[:])
	if *crc.Make() != crc.Table(*crc32.IEEETable) {
		t.Error("a table that was made later is another")
	}
}

// R5: an answer hangs on the arguments alone: not on what was fed ahead, nor by whom, nor on spare room.
func TestAnswersHangOnNothingElse(t *testing.T) {
	x, y := crc.Make(), crc.Make()
	tight := []byte("123456789")
	wide := append(make([]byte, 0, 64), tight...)
	for _, b := range [][]byte{tight, wide, tight} {
		for _, z := range []*crc.Table{x, nil, y, x} {
			if z.Sum(b) != 0xcbf43926 || z.Feed(0, b) != bitwise(0, b) {
				t.Errorf("%08x %08x", z.Sum(b), z.Feed(0, b))
			}
			z.Feed(5, mixed(9))
			z.Sum(mixed(10))
		}
	}
	if *x != *y {
		t.Error("two tables differ")
	}
}

// FuzzFeed: from each register, cut in two anywhere, it is what the bits alone make of it.
func FuzzFeed(f *testing.F) {
	f.Add(uint32(0xffffffff), []byte("123456789"), 5)
	f.Add(uint32(0), []byte{0, 0, 0}, 0)
	f.Add(uint32(0x80000001), []byte{}, 3)
	x := crc.Make()
	f.Fuzz(func(t *testing.T, state uint32, b []byte, cut int) {
		cut = min(max(cut, 0), len(b))
		want := bitwise(state, b)
		if got := x.Feed(state, b); got != want {
			t.Fatalf("Feed(%08x, %x): %08x, want %08x", state, b, got, want)
		}
		if got := x.Feed(x.Feed(state, b[:cut]), b[cut:]); got != want {
			t.Fatalf("Feed(%08x, %x) cut at %d: %08x, want %08x", state, b, cut, got, want)
		}
		if got, want := x.Sum(b), crc32.ChecksumIEEE(b); got != want {
			t.Fatalf("Sum(%x): %08x, want %08x", b, got, want)
		}
	})
}
