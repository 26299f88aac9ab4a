package disk_test

import (
	"bytes"
	"math"
	"slices"
	"testing"

	"longeron/api"
	"longeron/disk"
)

const (
	most = 128 // sectors
	all  = math.MaxUint64
)

// of is a sector's bytes, all c.
func of(c byte) []byte { return bytes.Repeat([]byte{c}, api.Sector) }

// mixed is a sector's bytes, no two places alike; those of two seeds (but 256 apart) differ at each place.
func mixed(seed int) []byte {
	b := make([]byte, api.Sector)
	for i := range b {
		b[i] = byte(seed + 3*i + 1)
	}
	return b
}

// model is a disk as the chapter's words tell it: what is laid, and what waits one behind the other.
type model struct {
	laid  [][]byte
	waits []waiting
	fuse  int // below 0: none
	down  bool
}

type waiting struct {
	at int
	b  []byte
}

func modelOf(sectors int) *model {
	m := &model{fuse: -1}
	for range sectors {
		m.laid = append(m.laid, of(0))
	}
	return m
}

func (m *model) goesOn() bool {
	if m.down || m.fuse == 0 {
		m.down = true
		return false
	}
	if m.fuse > 0 {
		m.fuse--
	}
	return true
}

func (m *model) write(at int, b []byte) api.Errno {
	if at < 0 || at >= len(m.laid) {
		return api.ErrRange
	}
	if len(b) != api.Sector {
		return api.ErrSize
	}
	if !m.goesOn() {
		return api.ErrDown
	}
	m.waits = append(m.waits, waiting{at, bytes.Clone(b)})
	return api.OK
}

func (m *model) read(at int) ([]byte, api.Errno) {
	if at < 0 || at >= len(m.laid) {
		return nil, api.ErrRange
	}
	if m.down {
		return nil, api.ErrDown
	}
	b := m.laid[at]
	for _, w := range m.waits {
		if w.at == at {
			b = w.b
		}
	}
	return b, api.OK
}

func (m *model) flush() api.Errno {
	if !m.goesOn() {
		return api.ErrDown
	}
	for _, w := range m.waits {
		m.laid[w.at] = w.b
	}
	m.waits = nil
	return api.OK
}

func (m *model) power(keep uint64) {
	for i, w := range m.waits {
		if i < 64 && keep&(uint64(1)<<i) != 0 {
			m.laid[w.at] = w.b
		}
	}
	m.waits, m.fuse, m.down = nil, -1, false
}

// same says whether d is just what m is, as far as it tells. Asking changes nothing, and burns no fuse.
func same(t *testing.T, what string, d *disk.Disk, m *model) {
	t.Helper()
	if d.Len() != len(m.laid) || d.Waits() != len(m.waits) || d.Down() != m.down {
		t.Fatalf("%s: Len %d, Waits %d, Down %v; want %d, %d, %v", what, d.Len(), d.Waits(), d.Down(), len(m.laid), len(m.waits), m.down)
	}
	for at := -1; at <= len(m.laid); at++ {
		got, e := d.Read(at)
		want, f := m.read(at)
		if e != f || !bytes.Equal(got, want) {
			t.Fatalf("%s: Read(%d): %x, %v; want %x, %v", what, at, got, e, want, f)
		}
	}
}

// must writes, where nothing stands against it.
func must(t *testing.T, d *disk.Disk, at int, b []byte) {
	t.Helper()
	if e := d.Write(at, b); e != api.OK {
		t.Fatalf("Write(%d): %v", at, e)
	}
}

// holds says whether a sector has just these bytes.
func holds(t *testing.T, what string, d *disk.Disk, at int, want []byte) {
	t.Helper()
	if got, e := d.Read(at); e != api.OK || !bytes.Equal(got, want) {
		t.Errorf("%s: Read(%d): %x, %v; want %x", what, at, got, e, want)
	}
}

// flushed is a disk of so many sectors, each of which has mixed bytes of its own number.
func flushed(t *testing.T, sectors int) *disk.Disk {
	t.Helper()
	d := disk.New(sectors)
	for at := range sectors {
		must(t, d, at, mixed(at))
	}
	if e := d.Flush(); e != api.OK {
		t.Fatal(e)
	}
	return d
}

// downed is such a disk that is down, with a write to sector 0 that waits.
func downed(t *testing.T, sectors int) *disk.Disk {
	t.Helper()
	d := flushed(t, sectors)
	d.Fuse(1)
	must(t, d, 0, of(0xaa))
	if e := d.Flush(); e != api.ErrDown || !d.Down() {
		t.Fatalf("%v, Down %v", e, d.Down())
	}
	return d
}

// P4.1.

func TestNew(t *testing.T) {
	for sectors, want := range map[int]int{
		math.MinInt: 1, -129: 1, -1: 1, 0: 1, 1: 1, 2: 2, 40: 40, 127: 127, 128: 128, 129: 128, 256: 128, math.MaxInt: 128,
	} {
		d := disk.New(sectors)
		if d == nil {
			t.Fatalf("New(%d): none", sectors)
		}
		same(t, "new", d, modelOf(want))
		if d.Flush() != api.OK {
			t.Errorf("New(%d): it is down", sectors)
		}
		same(t, "flushed", d, modelOf(want))
	}
}

// Of each size the first and the last sector, and those that stand just beside them.
func TestBounds(t *testing.T) {
	for _, sectors := range []int{1, 2, 3, 127, 128} {
		d := disk.New(sectors)
		for _, at := range []int{math.MinInt, -129, -1, sectors, sectors + 1, 200, math.MaxInt} {
			if e := d.Write(at, of(1)); e != api.ErrRange {
				t.Errorf("%d sectors: Write(%d): %v", sectors, at, e)
			}
			if b, e := d.Read(at); b != nil || e != api.ErrRange {
				t.Errorf("%d sectors: Read(%d): %x, %v", sectors, at, b, e)
			}
		}
		same(t, "beyond its bounds", d, modelOf(sectors))
		for _, at := range []int{0, sectors - 1} {
			must(t, d, at, mixed(at))
			holds(t, "waits", d, at, mixed(at))
		}
		d.Flush()
		d.Power(0)
		for _, at := range []int{0, sectors - 1} {
			holds(t, "laid", d, at, mixed(at))
		}
	}
}

// A sector that is written is that one alone, waiting and laid.
func TestEachSector(t *testing.T) {
	for at := range most {
		d, m := disk.New(most), modelOf(most)
		d.Write(at, mixed(at))
		m.write(at, mixed(at))
		same(t, "waits", d, m)
		d.Flush()
		m.flush()
		same(t, "laid", d, m)
	}
	d, m := disk.New(most), modelOf(most)
	for at := range most {
		d.Write(at, mixed(at))
		m.write(at, mixed(at))
	}
	same(t, "all wait", d, m)
	d.Flush()
	m.flush()
	same(t, "all laid", d, m)
}

func TestSizes(t *testing.T) {
	d := disk.New(2)
	for n := range 3*api.Sector + 1 {
		if n == api.Sector {
			continue
		}
		if e := d.Write(1, make([]byte, n, 4*api.Sector)); e != api.ErrSize {
			t.Errorf("%d bytes: %v", n, e)
		}
	}
	for _, b := range [][]byte{nil, {}, make([]byte, 1<<20)} {
		if e := d.Write(0, b); e != api.ErrSize {
			t.Errorf("%d bytes: %v", len(b), e)
		}
	}
	same(t, "behind wrong sizes", d, modelOf(2))
	must(t, d, 1, make([]byte, api.Sector, 4*api.Sector))
	if d.Waits() != 1 {
		t.Errorf("Waits %d", d.Waits())
	}
}

// What was written last is told, whether what is ahead of it waits, too, or is laid.
func TestReadTellsTheLast(t *testing.T) {
	d := disk.New(3)
	for i := range 40 {
		must(t, d, 1, mixed(i))
		holds(t, "last", d, 1, mixed(i))
		must(t, d, 2, mixed(100+i))
		holds(t, "with another one behind it", d, 1, mixed(i))
		holds(t, "other", d, 2, mixed(100+i))
		if i%7 == 0 {
			d.Flush()
			holds(t, "flushed", d, 1, mixed(i))
		}
	}
	holds(t, "never written", d, 0, of(0))
}

// All that waits is laid, and in order.
func TestFlush(t *testing.T) {
	d := disk.New(4)
	for i, at := range []int{0, 3, 0, 1, 3, 3, 0} {
		must(t, d, at, mixed(i))
		if d.Waits() != i+1 {
			t.Errorf("Waits %d behind %d writes", d.Waits(), i+1)
		}
	}
	for range 3 { // nothing is laid twice
		if e := d.Flush(); e != api.OK || d.Waits() != 0 {
			t.Errorf("%v, Waits %d", e, d.Waits())
		}
		for at, want := range [][]byte{mixed(6), mixed(3), of(0), mixed(5)} {
			holds(t, "flushed", d, at, want)
		}
	}
	d.Power(0)
	for at, want := range [][]byte{mixed(6), mixed(3), of(0), mixed(5)} {
		holds(t, "laid", d, at, want)
	}
}

// More than a power's bits can tell are flushed all the same.
func TestFlushOfMany(t *testing.T) {
	d, m := disk.New(most), modelOf(most)
	for i := range 300 {
		d.Write(i*5%most, mixed(i))
		m.write(i*5%most, mixed(i))
	}
	same(t, "wait", d, m)
	d.Flush()
	m.flush()
	d.Power(0)
	same(t, "laid", d, m)
}

// So many writes and flushes go on, in whatever order; at the next one the disk goes down, be it a write or a flush, and not ahead of that.
func TestFuse(t *testing.T) {
	for n := range 6 {
		for kinds := range 1 << (n + 1) { // a bit each: whether it is a flush
			d, m := disk.New(2), modelOf(2)
			d.Fuse(n)
			m.fuse = n
			for i := range n + 4 {
				same(t, "ahead", d, m)
				var got, want api.Errno
				if kinds>>i&1 == 1 {
					got, want = d.Flush(), m.flush()
				} else {
					got, want = d.Write(i%2, mixed(i)), m.write(i%2, mixed(i))
				}
				if got != want || (got == api.ErrDown) != (i >= n) || d.Down() != (i >= n) {
					t.Fatalf("Fuse(%d), the call %d: %v, Down %v; want %v", n, i, got, d.Down(), want)
				}
			}
			same(t, "down", d, m)
			d.Power(all)
			m.power(all)
			same(t, "power is back", d, m)
		}
	}
}

// What is no write or flush, or a write of another error, isn't counted: neither far ahead of the fuse's edge nor just at it.
func TestFuseCountsNothingElse(t *testing.T) {
	for _, n := range []int{0, 1, 2} {
		d := flushed(t, 3)
		d.Fuse(n)
		for range n + 1 {
			for range 5 {
				if e := d.Write(3, of(1)); e != api.ErrRange {
					t.Errorf("no such sector: %v", e)
				}
				if e := d.Write(-1, nil); e != api.ErrRange {
					t.Errorf("no such sector, wrong size: %v", e)
				}
				if e := d.Write(0, of(1)[1:]); e != api.ErrSize {
					t.Errorf("wrong size: %v", e)
				}
				holds(t, "the fuse isn't at its end", d, 2, mixed(2))
				d.Read(3)
				if d.Down() || d.Waits() != 0 || d.Len() != 3 {
					t.Fatalf("Down %v, Waits %d, Len %d", d.Down(), d.Waits(), d.Len())
				}
			}
			if n > 0 {
				d.Flush()
				n--
			}
		}
		if e := d.Write(0, of(1)); e != api.ErrDown || !d.Down() {
			t.Errorf("at the edge: %v, Down %v", e, d.Down())
		}
	}
}

func TestFuseOfZero(t *testing.T) {
	for name, call := range map[string]func(d *disk.Disk) api.Errno{
		"Write": func(d *disk.Disk) api.Errno { return d.Write(0, of(1)) },
		"Flush": (*disk.Disk).Flush,
	} {
		d := flushed(t, 2)
		must(t, d, 1, of(9))
		d.Fuse(0)
		if d.Down() {
			t.Errorf("%s: down ahead of it", name)
		}
		holds(t, name, d, 1, of(9))
		if e := call(d); e != api.ErrDown || !d.Down() || d.Waits() != 1 {
			t.Errorf("%s: %v, Down %v, Waits %d", name, e, d.Down(), d.Waits())
		}
		d.Power(0)
		holds(t, "nothing was laid", d, 1, mixed(1))
		holds(t, "nothing was laid", d, 0, mixed(0))
	}
}

func TestFuseBelowZero(t *testing.T) {
	for _, n := range []int{-1, -2, -64, math.MinInt} {
		d := disk.New(2)
		for _, old := range []int{0, 1, 5} { // one that is there is taken away
			d.Fuse(old)
			d.Fuse(n)
			for i := range 200 {
				must(t, d, 1, mixed(i))
				if e := d.Flush(); e != api.OK || d.Down() {
					t.Fatalf("Fuse(%d): %v", n, e)
				}
			}
		}
	}
}

// A fuse that is set anew counts from there on, with nothing of the one ahead.
func TestFuseAnew(t *testing.T) {
	d := disk.New(1)
	d.Fuse(9)
	must(t, d, 0, of(1))
	d.Fuse(2)
	must(t, d, 0, of(2))
	d.Fuse(3)
	for i := range 3 {
		must(t, d, 0, mixed(i))
	}
	if e := d.Write(0, of(4)); e != api.ErrDown {
		t.Error(e)
	}
	d.Power(0)
	d.Fuse(math.MaxInt)
	for i := range 100 {
		must(t, d, 0, mixed(i))
	}
}

func TestFuseOfADiskThatIsDown(t *testing.T) {
	for _, n := range []int{math.MinInt, -1, 0, 1, 5, math.MaxInt} {
		d := downed(t, 2)
		d.Fuse(n)
		for range 8 {
			if e := d.Write(1, of(1)); e != api.ErrDown {
				t.Errorf("Fuse(%d): Write: %v", n, e)
			}
			if e := d.Flush(); e != api.ErrDown {
				t.Errorf("Fuse(%d): Flush: %v", n, e)
			}
			if b, e := d.Read(0); b != nil || e != api.ErrDown || !d.Down() || d.Waits() != 1 {
				t.Errorf("Fuse(%d): Read: %x, %v; Down %v, Waits %d", n, b, e, d.Down(), d.Waits())
			}
		}
		d.Power(0)
		for i := range 20 { // a fuse that was set while it was down is gone too
			must(t, d, 1, mixed(i))
		}
	}
}

// A disk that is down keeps what waits, and nothing that comes then, for the power to lay.
func TestDownChangesNothing(t *testing.T) {
	for keep, want := range map[uint64][]byte{0: mixed(0), 1: of(0xaa), 2: mixed(0), 3: of(0xaa), all: of(0xaa)} {
		d := downed(t, 3)
		for range 3 {
			d.Write(0, of(0xbb))
			d.Write(1, of(0xbb))
			d.Flush()
		}
		if d.Waits() != 1 || d.Len() != 3 {
			t.Errorf("Waits %d, Len %d", d.Waits(), d.Len())
		}
		d.Power(keep)
		for at, b := range [][]byte{want, mixed(1), mixed(2)} {
			holds(t, "power is back", d, at, b)
		}
	}
}

// P4.2.

func TestExamples(t *testing.T) {
	for keep, want := range map[uint64][]byte{0: mixed(1), 1: of(7)} {
		d := flushed(t, 3)
		must(t, d, 1, of(7))
		holds(t, "waits", d, 1, of(7))
		d.Power(keep)
		holds(t, "power is back", d, 1, want)
		if d.Waits() != 0 || d.Down() {
			t.Errorf("Waits %d, Down %v", d.Waits(), d.Down())
		}
	}
}

// Each choice of seven writes, to three sectors: those that are kept are laid, in their order, whether the disk is down or not.
func TestPowerKeepsEachChoice(t *testing.T) {
	for keep := range uint64(1 << 7) {
		for _, down := range []bool{false, true} {
			d, m := disk.New(3), modelOf(3)
			if down {
				d.Fuse(7)
				m.fuse = 7
			}
			for i, at := range []int{0, 1, 0, 2, 1, 0, 1} {
				d.Write(at, mixed(i))
				m.write(at, mixed(i))
			}
			if down {
				d.Flush()
				m.flush()
			}
			same(t, "waits", d, m)
			d.Power(keep)
			m.power(keep)
			same(t, "power is back", d, m)
			d.Power(all)
			same(t, "what was gone is gone", d, m)
		}
	}
}

// Each bit is that of one write, from the first to the 63rd one; of those behind them none is laid.
func TestPowerKeepsByBits(t *testing.T) {
	keeps := []uint64{0, all, 1<<63 | 1, 0x5555555555555555, 0xaaaaaaaaaaaaaaaa, all >> 1, all - 1, 0xffffffff << 32}
	for i := range 64 {
		keeps = append(keeps, uint64(1)<<i)
	}
	for _, many := range []int{1, 2, 63, 64, 65, 66, 127, 128} {
		for _, keep := range keeps {
			d, m := disk.New(most), modelOf(most)
			for i := range many {
				must(t, d, i, mixed(i))
				m.write(i, mixed(i))
			}
			d.Power(keep)
			m.power(keep)
			same(t, "power is back", d, m)
		}
	}
}

func TestPowerKeepsNoneFromThe64thOn(t *testing.T) {
	d := disk.New(2)
	for i := range 128 {
		must(t, d, i/64, mixed(i)) // from the 64th one on into another sector
	}
	d.Power(all)
	holds(t, "the 63rd one", d, 0, mixed(63))
	holds(t, "from the 64th on", d, 1, of(0))
}

// Bits count from what waits: not from what was flushed, or lost, or refused ahead of it.
func TestPowerCountsWhatWaits(t *testing.T) {
	d := disk.New(4)
	must(t, d, 0, of(1))
	d.Flush()
	must(t, d, 1, of(2))
	d.Power(0)
	d.Write(4, of(3))
	d.Write(2, nil)
	must(t, d, 2, of(4))
	d.Write(-1, of(5))
	must(t, d, 3, of(6))
	d.Power(2)
	for at, want := range [][]byte{of(1), of(0), of(0), of(6)} {
		holds(t, "power is back", d, at, want)
	}
}

// Bits for which nothing waits are none for what is written later.
func TestPowerKeepsNothingLater(t *testing.T) {
	d := disk.New(2)
	d.Power(all)
	must(t, d, 0, of(1))
	if d.Waits() != 1 {
		t.Errorf("Waits %d", d.Waits())
	}
	d.Power(0)
	holds(t, "power is back", d, 0, of(0))
}

func TestPowerTakesTheFuse(t *testing.T) {
	for _, n := range []int{0, 1, 3} {
		d := disk.New(1)
		d.Fuse(n)
		d.Power(0)
		for i := range 20 {
			must(t, d, 0, mixed(i))
			if e := d.Flush(); e != api.OK || d.Down() {
				t.Fatalf("Fuse(%d), Power: %v", n, e)
			}
		}
	}
}

func TestPowerBringsItBack(t *testing.T) {
	d := downed(t, 2)
	for i := range 5 {
		d.Power(0)
		if d.Down() || d.Waits() != 0 || d.Len() != 2 {
			t.Fatalf("Down %v, Waits %d, Len %d", d.Down(), d.Waits(), d.Len())
		}
		holds(t, "power is back", d, 1, mixed(1))
		must(t, d, 0, mixed(i))
		if e := d.Flush(); e != api.OK {
			t.Fatal(e)
		}
		holds(t, "written anew", d, 0, mixed(i))
		d.Fuse(0)
		if e := d.Flush(); e != api.ErrDown {
			t.Fatal(e)
		}
	}
}

func TestNilDisk(t *testing.T) {
	var none *disk.Disk
	for range 2 {
		for _, at := range []int{math.MinInt, -1, 0, 1, 128} {
			for _, b := range [][]byte{nil, {}, of(1), make([]byte, 65)} {
				if e := none.Write(at, b); e != api.ErrNil {
					t.Errorf("Write: %v", e)
				}
			}
			if b, e := none.Read(at); b != nil || e != api.ErrNil {
				t.Errorf("Read: %x, %v", b, e)
			}
		}
		if e := none.Flush(); e != api.ErrNil {
			t.Errorf("Flush: %v", e)
		}
		if !none.Down() || none.Waits() != 0 || none.Len() != 0 {
			t.Errorf("Down %v, Waits %d, Len %d", none.Down(), none.Waits(), none.Len())
		}
		none.Fuse(-1)
		none.Fuse(3)
		none.Power(0)
		none.Power(all)
	}
}

// R1: whatever they are given, the calls end.
func TestWildArguments(t *testing.T) {
	wild := []int{math.MinInt, math.MinInt32, -129, -1, 0, 1, 63, 64, 127, 128, 129, math.MaxInt32, math.MaxInt}
	for _, sectors := range wild {
		d := disk.New(sectors)
		for _, n := range wild {
			d.Fuse(n)
			d.Write(n, of(1))
			d.Write(n, nil)
			d.Read(n)
			d.Flush()
			d.Power(uint64(n))
			if d.Len() < 1 || d.Len() > most || d.Down() || d.Waits() != 0 {
				t.Errorf("New(%d), %d: Len %d, Down %v, Waits %d", sectors, n, d.Len(), d.Down(), d.Waits())
			}
		}
	}
}

// R1: very many writes may wait, and be flushed, without an end of the room.
func TestVeryMany(t *testing.T) {
	d := disk.New(most)
	const many = 100000
	for i := range many {
		must(t, d, i%most, mixed(i))
	}
	if d.Waits() != many {
		t.Errorf("Waits %d", d.Waits())
	}
	if e := d.Flush(); e != api.OK || d.Waits() != 0 {
		t.Errorf("%v, Waits %d", e, d.Waits())
	}
	for i := many - most; i < many; i++ {
		holds(t, "flushed", d, i%most, mixed(i))
	}
}

// R2: the error that is named first is told, and of the others none: no such sector, then the size, then down.
func TestErrorsInOrder(t *testing.T) {
	up, down := flushed(t, 2), downed(t, 2)
	for _, c := range []struct {
		what  string
		at, n int
		up    api.Errno
		down  api.Errno
	}{
		{"all of it", 2, 63, api.ErrRange, api.ErrRange},
		{"no such sector", -1, 64, api.ErrRange, api.ErrRange},
		{"nothing, for no such sector", 2, 0, api.ErrRange, api.ErrRange},
		{"too few bytes", 1, 63, api.ErrSize, api.ErrSize},
		{"too many bytes", 0, 65, api.ErrSize, api.ErrSize},
		{"none of it", 1, 64, api.OK, api.ErrDown},
	} {
		if e := up.Write(c.at, make([]byte, c.n)); e != c.up {
			t.Errorf("%s: %v, want %v", c.what, e, c.up)
		}
		if e := down.Write(c.at, make([]byte, c.n)); e != c.down {
			t.Errorf("%s, and it is down: %v, want %v", c.what, e, c.down)
		}
	}
	for at, want := range map[int]api.Errno{-1: api.ErrRange, 0: api.ErrDown, 1: api.ErrDown, 2: api.ErrRange} {
		if b, e := down.Read(at); b != nil || e != want {
			t.Errorf("Read(%d) of one that is down: %x, %v, want %v", at, b, e, want)
		}
	}
}

// R2: a write of an error has changed nothing, on no sector, and nothing that a power would lay.
func TestErrorsChangeNothing(t *testing.T) {
	d := flushed(t, 3)
	must(t, d, 1, of(0xcc))
	for _, at := range []int{-1, 0, 1, 2, 3} {
		d.Write(at, of(0xdd)[1:])
		d.Write(at, append(of(0xdd), 0xdd))
		d.Write(at+4, of(0xdd))
		d.Read(at + 4)
	}
	if d.Waits() != 1 {
		t.Errorf("Waits %d", d.Waits())
	}
	for at, want := range [][]byte{mixed(0), of(0xcc), mixed(2)} {
		holds(t, "waits", d, at, want)
	}
	d.Power(all)
	for at, want := range [][]byte{mixed(0), of(0xcc), mixed(2)} {
		holds(t, "power is back", d, at, want)
	}
}

// R3: nil and empty are one.
func TestNilAndEmpty(t *testing.T) {
	d := disk.New(1)
	for _, at := range []int{0, 1} {
		if x, y := d.Write(at, nil), d.Write(at, []byte{}); x != y || x == api.OK {
			t.Errorf("%v %v", x, y)
		}
	}
}

// R4: what is handed in isn't changed, spare room included, whatever becomes of it.
func TestChangesNothing(t *testing.T) {
	whole := slices.Concat(mixed(1), mixed(2))
	was := bytes.Clone(whole)
	d := disk.New(3)
	must(t, d, 0, whole[:api.Sector])
	must(t, d, 1, whole[:api.Sector])
	must(t, d, 1, of(9))
	d.Power(3)
	must(t, d, 0, of(8))
	must(t, d, 2, whole[:api.Sector])
	d.Write(2, whole[:api.Sector+1])
	d.Write(3, whole[:api.Sector])
	d.Flush()
	must(t, d, 2, of(7))
	d.Flush()
	if !bytes.Equal(whole, was) {
		t.Errorf("%x, was %x", whole, was)
	}
}

// R4: what is handed in isn't kept: bytes that are changed behind Write are not what was written, neither while it waits nor when it is laid.
func TestChangedBehindWrite(t *testing.T) {
	lays := map[string]func(d *disk.Disk){
		"waits": func(*disk.Disk) {},
		"flush": func(d *disk.Disk) { d.Flush() },
		"power": func(d *disk.Disk) { d.Power(all) },
	}
	for name, lay := range lays {
		d := disk.New(2)
		b := mixed(5)
		must(t, d, 0, b)
		clear(b)
		holds(t, "changed ahead", d, 0, mixed(5))
		lay(d)
		holds(t, name, d, 0, mixed(5))
		copy(b, of(6))
		must(t, d, 1, b)
		lay(d)
		clear(b)
		holds(t, name+", changed behind", d, 1, of(6))
		holds(t, name+", the other one", d, 0, mixed(5))
	}
}

// One piece of memory may serve for all that is written.
func TestOneMemoryForAll(t *testing.T) {
	d, b := disk.New(most), make([]byte, api.Sector)
	for at := range most {
		copy(b, mixed(at))
		must(t, d, at, b)
	}
	d.Flush()
	for at := range most {
		holds(t, "laid", d, at, mixed(at))
	}
}

// R4: each answer is new memory, spare room included: who writes into it changes neither the disk nor another answer.
func TestChangedBehindRead(t *testing.T) {
	for name, lay := range map[string]func(d *disk.Disk){
		"waits":        func(*disk.Disk) {},
		"flush":        func(d *disk.Disk) { d.Flush() },
		"power":        func(d *disk.Disk) { d.Power(all) },
		"never, zeros": func(d *disk.Disk) { d.Power(0) },
	} {
		d := disk.New(3)
		b := mixed(1)
		for at := range 3 {
			must(t, d, at, b)
		}
		lay(d)
		want, _ := d.Read(1)
		want = bytes.Clone(want)
		x, _ := d.Read(1)
		y, _ := d.Read(1)
		x = x[:cap(x)]
		for i := range x {
			x[i] = 0xee
		}
		if !bytes.Equal(y, want) || !bytes.Equal(b, mixed(1)) {
			t.Errorf("%s: %x %x", name, y, b)
		}
		for at := range 3 {
			holds(t, name, d, at, want)
		}
		d.Flush()
		d.Power(0)
		for at := range 3 {
			holds(t, name+", laid", d, at, want)
		}
	}
}

// R4: an answer stays what it was, whatever is written, flushed or lost then.
func TestAnswersStay(t *testing.T) {
	d := disk.New(1)
	must(t, d, 0, mixed(1))
	waited, _ := d.Read(0)
	d.Flush()
	laid, _ := d.Read(0)
	for i := range 10 {
		must(t, d, 0, mixed(10+i))
		if i%2 == 0 {
			d.Flush()
		} else {
			d.Power(1)
		}
	}
	if !bytes.Equal(waited, mixed(1)) || !bytes.Equal(laid, mixed(1)) {
		t.Errorf("%x %x", waited, laid)
	}
}

// R4 and R5: disks share nothing, and two to which the same is done tell the same.
func TestDisksAreApart(t *testing.T) {
	x, y, other := disk.New(2), disk.New(2), disk.New(2)
	if x == y {
		t.Fatal("one disk was handed out twice")
	}
	tight := mixed(3)
	wide := append(make([]byte, 0, 300), tight...)
	for i := range 30 {
		if x.Write(i%2, tight) != y.Write(i%2, wide) {
			t.Fatal("spare room counts")
		}
		other.Write(i%2, of(byte(i)))
		if i%5 == 0 {
			other.Fuse(0)
			other.Flush()
		}
		if i%7 == 0 {
			x.Power(1)
			other.Read(0)
			y.Power(1)
		}
		for at := range 2 {
			b, e := x.Read(at)
			c, f := y.Read(at)
			if !bytes.Equal(b, c) || e != f || x.Waits() != y.Waits() || x.Down() != y.Down() {
				t.Fatalf("at %d: %x, %v; %x, %v", i, b, e, c, f)
			}
		}
	}
	same(t, "made later", disk.New(2), modelOf(2))
}

// FuzzDisk: whatever is done to it, one call behind the other, it is what the chapter's words make of it.
func FuzzDisk(f *testing.F) {
	f.Add(4, []byte{0, 0, 1, 0, 1, 2, 4, 0, 3, 0, 0, 3})
	f.Add(1, []byte{3, 0, 2, 0, 0, 5, 2, 0, 0, 0, 0, 6, 4, 0, 1})
	f.Add(128, []byte{0, 127, 1, 0, 128, 2, 1, 0, 0, 3, 255, 0, 5, 9, 9})
	f.Add(0, bytes.Repeat([]byte{0, 0, 7}, 70))
	f.Fuzz(func(t *testing.T, sectors int, deeds []byte) {
		d, m := disk.New(sectors), modelOf(min(max(sectors, 1), most))
		for deed := range slices.Chunk(deeds, 3) {
			if len(deed) < 3 {
				break
			}
			a, b := int(int8(deed[1])), deed[2]
			switch deed[0] % 6 {
			case 0, 1:
				if got, want := d.Write(a, mixed(int(b))), m.write(a, mixed(int(b))); got != want {
					t.Fatalf("Write(%d): %v, want %v", a, got, want)
				}
			case 2:
				if got, want := d.Flush(), m.flush(); got != want {
					t.Fatalf("Flush: %v, want %v", got, want)
				}
			case 3:
				d.Fuse(a)
				m.fuse = max(a, -1)
			case 4:
				keep := uint64(deed[1]) * 0x0101010101010101 << (b % 64)
				d.Power(keep)
				m.power(keep)
			case 5:
				if got, want := d.Write(a, make([]byte, b)), m.write(a, make([]byte, b)); got != want {
					t.Fatalf("Write(%d) of %d bytes: %v, want %v", a, b, got, want)
				}
			}
			same(t, "fuzzed", d, m)
		}
	})
}
