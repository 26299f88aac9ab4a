package stage_test

import (
	"bytes"
	"hash/crc32"
	"math"
	"slices"
	"testing"

	"longeron/api"
	"longeron/disk"
	"longeron/stage"
)

const (
	sectorSize = 64
	blockSize  = 16
	greatest   = 160 // bytes of an image
	fullDisk   = 40  // sectors of four partitions
	noFuse     = -1
)

// The disk's layout, as chapter 9's words have it: two sectors of a commit record, then for each slot one of its stage and three of its image.

func stageAt(part, slot int) int    { return 10*part + 2 + 4*slot }
func imageAt(part, slot, i int) int { return stageAt(part, slot) + 1 + i }

// needed is how many sectors a disk has that goes just as far as a slot's last one.
func needed(part, slot int) int { return imageAt(part, slot, 2) + 1 }

// blocksOf counts the blocks one by one.
func blocksOf(size int) int {
	n := 0
	for ; size > 0; size -= blockSize {
		n++
	}
	return n
}

func isRight(s api.Stage) bool {
	return s.Session >= 1 && s.Session <= 65535 && s.Size >= 1 && s.Size <= greatest && s.Have >= 0 && s.Have < 1<<blocksOf(s.Size)
}

// sectorOf is the sector of a stage, right or not, as chapter 7's words have it.
func sectorOf(s api.Stage) []byte {
	b := []byte{0x4c, 0x53, byte(s.Session >> 8), byte(s.Session), byte(s.Size >> 8), byte(s.Size), byte(s.Have >> 8), byte(s.Have)}
	n := crc32.ChecksumIEEE(b)
	b = append(b, byte(n>>24), byte(n>>16), byte(n>>8), byte(n))
	return append(b, make([]byte, sectorSize-len(b))...)
}

// stageOf is the stage that a sector holds; the zero one, if it holds none.
func stageOf(b []byte) api.Stage {
	s := api.Stage{Session: int(b[2])<<8 | int(b[3]), Size: int(b[4])<<8 | int(b[5]), Have: int(b[6])<<8 | int(b[7])}
	if !isRight(s) || !bytes.Equal(b, sectorOf(s)) {
		return api.Stage{}
	}
	return s
}

// block is a block's bytes, no two places alike; those of two seeds (but 256 apart) differ at each place.
func block(seed int) []byte {
	b := make([]byte, blockSize)
	for i := range b {
		b[i] = byte(seed + 5*i)
	}
	return b
}

// litter is what stands in a sector that nobody has cleared; it is no stage.
func litter(at int) []byte {
	b := make([]byte, sectorSize)
	for i := range b {
		b[i] = byte(7*at + 3*i + 1)
	}
	return b
}

// tried is a slot, and the stage that it should tell: the zero one, if none.
type tried struct {
	s          *stage.Slot
	part, slot int
	is         api.Stage
}

// write is a sector that is written.
type write struct {
	at int
	b  []byte
}

// bench is a disk, what should be laid in each of its sectors, what somebody else has written that waits, and slots that are tried.
type bench struct {
	d     *disk.Disk
	laid  [][]byte
	waits []write
	all   []*tried
}

// benchOf is a disk of so many sectors, each of which has litter.
func benchOf(t *testing.T, sectors int) *bench {
	t.Helper()
	b := &bench{d: disk.New(sectors)}
	for at := range sectors {
		b.laid = append(b.laid, litter(at))
		if e := b.d.Write(at, litter(at)); e != api.OK {
			t.Fatal(e)
		}
	}
	if e := b.d.Flush(); e != api.OK {
		t.Fatal(e)
	}
	return b
}

// lay puts that into a sector, past all slots.
func (b *bench) lay(t *testing.T, at int, sector []byte) {
	t.Helper()
	if b.d.Write(at, sector) != api.OK || b.d.Flush() != api.OK {
		t.Fatalf("sector %d can't be laid", at)
	}
	b.laid[at] = bytes.Clone(sector)
}

// opened opens a slot, to be tried, and says whether it tells what its sector holds.
func (b *bench) opened(t *testing.T, part, slot int) *tried {
	t.Helper()
	u := &tried{part: part, slot: slot}
	b.all = append(b.all, u)
	b.reopen(t, u)
	return u
}

func (b *bench) reopen(t *testing.T, u *tried) {
	t.Helper()
	s, e := stage.Open(b.d, u.part, u.slot)
	if s == nil || e != api.OK {
		t.Fatalf("Open of slot %d of partition %d: %v, %v", u.slot, u.part, s, e)
	}
	u.s, u.is = s, stageOf(b.laid[stageAt(u.part, u.slot)])
	b.tells(t, "opened", u)
}

// one is a bench with one slot.
func one(t *testing.T, part, slot int) (*bench, *tried) {
	t.Helper()
	b := benchOf(t, fullDisk)
	return b, b.opened(t, part, slot)
}

// bytesOf is what Bytes should answer of a slot with that stage.
func (b *bench) bytesOf(part, slot int, is api.Stage) ([]byte, api.Errno) {
	switch {
	case is == api.Stage{}:
		return nil, api.ErrState
	case is.Have != 1<<blocksOf(is.Size)-1:
		return nil, api.ErrMissing
	case b.d.Down():
		return nil, api.ErrDown
	}
	image := slices.Concat(b.laid[imageAt(part, slot, 0)], b.laid[imageAt(part, slot, 1)], b.laid[imageAt(part, slot, 2)])
	return image[:is.Size], api.OK
}

// tells says whether a slot tells what it should.
func (b *bench) tells(t *testing.T, what string, u *tried) {
	t.Helper()
	if got, is := u.s.Stage(); got != u.is || is != (u.is != api.Stage{}) {
		t.Fatalf("%s: Stage of slot %d of partition %d: %v, %v; want %v", what, u.slot, u.part, got, is, u.is)
	}
	got, e := u.s.Bytes()
	want, f := b.bytesOf(u.part, u.slot, u.is)
	if e != f || !bytes.Equal(got, want) {
		t.Fatalf("%s: Bytes of slot %d of partition %d: %x, %v; want %x, %v", what, u.slot, u.part, got, e, want, f)
	}
}

// same says whether all sectors, and all slots, as they are and opened anew, are what they should be; and that asking writes nothing, as it would take the disk down.
func (b *bench) same(t *testing.T, what string) {
	t.Helper()
	if b.d.Waits() != 0 || b.d.Down() {
		t.Fatalf("%s: %d writes wait, Down %v", what, b.d.Waits(), b.d.Down())
	}
	b.d.Fuse(0)
	for at, want := range b.laid {
		if got, e := b.d.Read(at); e != api.OK || !bytes.Equal(got, want) {
			t.Fatalf("%s: sector %d: %x, %v; want %x", what, at, got, e, want)
		}
	}
	for _, u := range b.all {
		b.tells(t, what, u)
		anew := *u
		b.reopen(t, &anew)
	}
	if b.d.Down() {
		t.Fatalf("%s: asking writes, or flushes", what)
	}
	b.d.Fuse(noFuse)
}

// deed is a call that may write.
type deed struct {
	kind       int
	session, n int // n: how many bytes, or which block
	data       []byte
}

const (
	begin = iota
	put
	drop
)

func (u *tried) do(d deed) api.Errno {
	switch d.kind {
	case begin:
		return u.s.Begin(d.session, d.n)
	case put:
		return u.s.Put(d.session, d.n, d.data)
	}
	return u.s.Clear()
}

// makes tells what the chapter's words make of a deed: the error, what is written, each flushed ahead of the next one, and the stage that there is then.
func (b *bench) makes(u *tried, d deed) (api.Errno, []write, api.Stage) {
	at := stageAt(u.part, u.slot)
	switch d.kind {
	case begin:
		next := api.Stage{Session: d.session, Size: d.n}
		if !isRight(next) {
			return api.ErrRange, nil, u.is
		}
		return api.OK, []write{{at, sectorOf(next)}}, next
	case drop:
		return api.OK, []write{{at, make([]byte, sectorSize)}}, api.Stage{}
	}
	switch {
	case u.is == api.Stage{}:
		return api.ErrState, nil, u.is
	case d.session != u.is.Session:
		return api.ErrSession, nil, u.is
	case d.n < 0 || d.n >= blocksOf(u.is.Size):
		return api.ErrRange, nil, u.is
	case len(d.data) != blockSize:
		return api.ErrSize, nil, u.is
	case u.is.Have>>d.n&1 == 1:
		return api.OK, nil, u.is
	}
	next := u.is
	next.Have += 1 << d.n
	where := imageAt(u.part, u.slot, d.n/4)
	sector := bytes.Clone(b.laid[where])
	copy(sector[d.n%4*blockSize:], d.data)
	return api.OK, []write{{where, sector}, {at, sectorOf(next)}}, next
}

// does says whether a deed does what it should. The fuse lets go on just what it is to write and flush: one more of either would take the disk down.
func (b *bench) does(t *testing.T, what string, u *tried, d deed) {
	t.Helper()
	want, writes, next := b.makes(u, d)
	b.d.Fuse(2 * len(writes))
	if e := u.do(d); e != want || b.d.Down() {
		t.Fatalf("%s: %v: %v, Down %v; want %v", what, d, e, b.d.Down(), want)
	}
	b.d.Fuse(noFuse)
	for _, w := range slices.Concat(b.waits, writes) {
		b.laid[w.at] = w.b
	}
	b.waits, u.is = nil, next
	b.same(t, what)
}

// fails says whether a deed does what it should in which the disk goes down when so many writes and flushes have gone on; and what is there when the power is back, and has kept that of what waited.
func (b *bench) fails(t *testing.T, what string, u *tried, d deed, goOn int, keep uint64) {
	t.Helper()
	_, writes, _ := b.makes(u, d)
	b.d.Fuse(goOn)
	if e := u.do(d); e != api.ErrDown || !b.d.Down() {
		t.Fatalf("%s: %v with a fuse of %d: %v, Down %v", what, d, goOn, e, b.d.Down())
	}
	for i := range goOn {
		if i%2 == 0 {
			b.waits = append(b.waits, writes[i/2])
			continue
		}
		for _, w := range b.waits {
			b.laid[w.at] = w.b
		}
		b.waits = nil
	}
	if b.d.Waits() != len(b.waits) {
		t.Fatalf("%s: %v with a fuse of %d: %d writes wait, want %d", what, d, goOn, b.d.Waits(), len(b.waits))
	}
	for _, v := range b.all {
		b.tells(t, what+", down", v)
	}
	b.d.Power(keep)
	for i, w := range b.waits {
		if keep>>i&1 == 1 {
			b.laid[w.at] = w.b
		}
	}
	b.waits = nil
	b.same(t, what+", power is back")
}

// loaded puts all blocks of a size, each of its own seed, rising, into a slot; it answers them one behind the other.
func (b *bench) loaded(t *testing.T, u *tried, session, size, seed int) []byte {
	t.Helper()
	b.does(t, "loaded", u, deed{begin, session, size, nil})
	var image []byte
	for no := range blocksOf(size) {
		b.does(t, "loaded", u, deed{put, session, no, block(seed + no)})
		image = append(image, block(seed+no)...)
	}
	return image
}

// hasBytes says whether a slot has just these.
func hasBytes(t *testing.T, what string, s *stage.Slot, want []byte) {
	t.Helper()
	if got, e := s.Bytes(); e != api.OK || !bytes.Equal(got, want) {
		t.Errorf("%s: Bytes: %x, %v; want %x", what, got, e, want)
	}
}

// P11.1, P11.2: ordinary.

// The chapter's example.
func TestExample(t *testing.T) {
	s, e := stage.Open(disk.New(fullDisk), 1, 1)
	if e != api.OK {
		t.Fatal(e)
	}
	if st, is := s.Stage(); is || st != (api.Stage{}) {
		t.Errorf("Stage of zeros: %v, %v", st, is)
	}
	for i, e := range []api.Errno{s.Begin(1, 20), s.Put(1, 0, block(1)), s.Put(1, 1, block(2))} {
		if e != api.OK {
			t.Errorf("call %d: %v", i, e)
		}
	}
	hasBytes(t, "example", s, slices.Concat(block(1), block(2))[:20])
	if st, is := s.Stage(); !is || st != (api.Stage{Session: 1, Size: 20, Have: 3}) {
		t.Errorf("Stage: %v, %v", st, is)
	}
}

// orders are some in which so many blocks may come.
func orders(n int) [][]int {
	var rising []int
	for no := range n {
		rising = append(rising, no)
	}
	falling := slices.Clone(rising)
	slices.Reverse(falling)
	var odd, even []int
	for no := range n {
		if no%2 == 1 {
			odd = append(odd, no)
		} else {
			even = append(even, no)
		}
	}
	turned := slices.Concat(rising[n/2:], rising[:n/2])
	return [][]int{rising, falling, slices.Concat(odd, even), turned, slices.Concat(rising, falling), slices.Concat(falling, falling)}
}

// Each size, with its blocks put in any order, and more than once: what was put first counts.
func TestSizes(t *testing.T) {
	b, u := one(t, 2, 1)
	for size := 1; size <= greatest; size++ {
		n := blocksOf(size)
		var image []byte
		for no := range n {
			image = append(image, block(size+no)...)
		}
		for i, order := range orders(n) {
			if i > 1 && size%blockSize > 1 {
				continue
			}
			b.does(t, "begun", u, deed{begin, size, size, nil})
			there := 0
			for _, no := range order {
				data := block(size + no)
				if there>>no&1 == 1 {
					data = block(size + no + 100)
				}
				b.does(t, "put", u, deed{put, size, no, data})
				there |= 1 << no
			}
			hasBytes(t, "whole", u.s, image[:size])
			if st, is := u.s.Stage(); !is || st != (api.Stage{Session: size, Size: size, Have: 1<<n - 1}) {
				t.Fatalf("Stage: %v, %v", st, is)
			}
		}
	}
}

// Each order of four blocks of one sector, and of those that stand in two.
func TestOrders(t *testing.T) {
	b, u := one(t, 3, 0)
	for _, from := range []int{0, 2} {
		for way := range 256 {
			order := []int{way & 3, way >> 2 & 3, way >> 4 & 3, way >> 6}
			b.does(t, "begun", u, deed{begin, 9, 96, nil})
			for i, no := range order {
				b.does(t, "put", u, deed{put, 9, from + no, block(way + 20*i)})
			}
		}
	}
}

// Each set of blocks of the greatest image, but what is missing: it isn't whole till all of them are there.
func TestMissing(t *testing.T) {
	for _, size := range []int{1, 16, 17, 63, 64, 65, 129, greatest} {
		b, u := one(t, 0, 1)
		whole := 1<<blocksOf(size) - 1
		for have := 0; have <= whole; have++ {
			b.lay(t, stageAt(0, 1), sectorOf(api.Stage{Session: 3, Size: size, Have: have}))
			b.reopen(t, u)
			_, e := u.s.Bytes()
			if want := map[bool]api.Errno{true: api.OK, false: api.ErrMissing}[have == whole]; e != want {
				t.Fatalf("size %d, have %b: %v", size, have, e)
			}
		}
	}
}

// P11.1: Open.

func TestOpenBounds(t *testing.T) {
	numbers := []int{math.MinInt, math.MinInt + 1, -1 << 32, -10, -4, -3, -2, -1, 0, 1, 2, 3, 4, 5, 7, 8, 10, 255, 256, 257, 1 << 16, 1 << 32, 1<<32 + 1, 1 << 62, math.MaxInt - 1, math.MaxInt}
	for _, sectors := range []int{1, 6, 10, 39, 40, 41, 128} {
		b := benchOf(t, sectors)
		b.d.Fuse(0)
		for _, part := range numbers {
			for _, slot := range numbers {
				s, e := stage.Open(b.d, part, slot)
				is := part >= 0 && part <= 3 && slot >= 0 && slot <= 1 && needed(part, slot) <= sectors
				if is && (s == nil || e != api.OK) || !is && (s != nil || e != api.ErrRange) {
					t.Errorf("%d sectors: Open(%d, %d): %v, %v", sectors, part, slot, s, e)
				}
			}
		}
		b.same(t, "opened")
	}
}

// A disk of just enough sectors serves for the greatest image; one of one fewer doesn't.
func TestOpenJustEnough(t *testing.T) {
	for part := range 4 {
		for slot := range 2 {
			for sectors := 1; sectors < needed(part, slot); sectors++ {
				if s, e := stage.Open(disk.New(sectors), part, slot); s != nil || e != api.ErrRange {
					t.Errorf("%d sectors: Open(%d, %d): %v, %v", sectors, part, slot, s, e)
				}
			}
			b := benchOf(t, needed(part, slot))
			u := b.opened(t, part, slot)
			hasBytes(t, "just enough", u.s, b.loaded(t, u, 7, greatest, 11*part+slot))
		}
	}
}

// What a slot's sector may hold: a stage, or what is none.
func TestOpenHolds(t *testing.T) {
	right := []api.Stage{
		{Session: 0x0102, Size: 33, Have: 5},
		{Session: 1, Size: 1},
		{Session: 65535, Size: 160, Have: 1023},
		{Session: 256, Size: 129, Have: 257},
	}
	var holds [][]byte
	for _, s := range right {
		holds = append(holds, sectorOf(s))
		for at := range sectorSize {
			turned := sectorOf(s)
			turned[at] ^= 0x41
			holds = append(holds, turned)
		}
	}
	for _, s := range []api.Stage{{}, {Size: 20}, {Session: 1}, {Session: 1, Size: 161}, {Session: 1, Size: 16, Have: 2}, {Session: 1, Size: 160, Have: 1024}, {Session: 1, Size: 65535, Have: 1}} {
		holds = append(holds, sectorOf(s))
	}
	record := []byte{0x4c, 0x43, 0, 0, 0, 0, 1, 0, 0, 0, 0, 0xff, 0x38, 0xaf, 0xd7}
	holds = append(holds, append(record, make([]byte, sectorSize-len(record))...), make([]byte, sectorSize), bytes.Repeat([]byte{0xff}, sectorSize), litter(5))
	for _, sector := range holds {
		b := benchOf(t, fullDisk)
		b.lay(t, stageAt(1, 0), sector)
		u := b.opened(t, 1, 0)
		b.same(t, "held")
		b.does(t, "held", u, deed{put, 0x0102, 1, block(1)})
		b.does(t, "held", u, deed{drop, 0, 0, nil})
		b.lay(t, stageAt(1, 0), sector)
		b.reopen(t, u)
		hasBytes(t, "held, and begun anew", u.s, b.loaded(t, u, 2, 48, 3))
	}
	for _, s := range right {
		b := benchOf(t, fullDisk)
		b.lay(t, stageAt(1, 0), sectorOf(s))
		if u := b.opened(t, 1, 0); u.is != s {
			t.Errorf("the test's own words don't make %v of its sector", s)
		}
	}
}

// What was written last counts, flushed or not: that is what the disk reads.
func TestOpenUnflushed(t *testing.T) {
	d := disk.New(fullDisk)
	st := api.Stage{Session: 5, Size: 40, Have: 1}
	if e := d.Write(stageAt(0, 0), sectorOf(st)); e != api.OK {
		t.Fatal(e)
	}
	s, e := stage.Open(d, 0, 0)
	if e != api.OK || d.Waits() != 1 {
		t.Fatalf("%v, %d wait", e, d.Waits())
	}
	if got, is := s.Stage(); got != st || !is {
		t.Errorf("Stage: %v, %v", got, is)
	}
}

// P11.1: Begin and Clear.

// sessions and sizes are some that may be, and some that may not, among them those of which fewer bits would.
var (
	sessions = []int{1, 2, 255, 256, 257, 32768, 65534, 65535, 0, -1, -2, 65536, 65537, 65536 + 65535, 1<<32 + 1, -65535, math.MinInt, math.MinInt + 1, math.MaxInt, math.MaxInt - 1}
	sizes    = []int{1, 2, 15, 16, 17, 32, 64, 65, 128, 129, 159, 160, 0, -1, -16, -160, 161, 176, 255, 256, 257, 65536, 65537, 65536 + 160, 1<<32 + 1, math.MinInt, math.MinInt + 1, math.MaxInt, math.MaxInt - 14}
)

// With a stage ahead of it, and without one.
func TestBeginBounds(t *testing.T) {
	b, u := one(t, 0, 0)
	for _, session := range sessions {
		for _, size := range sizes {
			b.does(t, "over one", u, deed{begin, 77, 20, nil})
			b.does(t, "over one", u, deed{put, 77, 1, block(1)})
			b.does(t, "over one", u, deed{begin, session, size, nil})
			b.does(t, "cleared", u, deed{drop, 0, 0, nil})
			b.does(t, "over none", u, deed{begin, session, size, nil})
		}
	}
}

// A stage that is begun has no blocks, whatever was there, of the same session and size, too. What stood in the image's sectors stays there.
func TestBeginAgain(t *testing.T) {
	for _, again := range []deed{{begin, 5, 70, nil}, {begin, 6, 70, nil}, {begin, 5, 69, nil}, {begin, 5, 16, nil}, {begin, 9, greatest, nil}} {
		b, u := one(t, 1, 1)
		b.loaded(t, u, 5, 70, 1)
		b.does(t, "again", u, again)
		if st, _ := u.s.Stage(); st.Have != 0 {
			t.Errorf("%v: %v", again, st)
		}
		b.does(t, "the one of before", u, deed{put, 5, 0, block(50)})
		hasBytes(t, "again", u.s, b.loaded(t, u, again.session, again.n, 60)[:again.n])
	}
}

// It has none, then; the sector is zeros, whatever stood there; and as often as one likes.
func TestClear(t *testing.T) {
	b, u := one(t, 3, 1)
	b.does(t, "litter", u, deed{drop, 0, 0, nil})
	for _, size := range []int{1, 16, 17, 100, greatest} {
		b.loaded(t, u, 8, size, 2*size)
		for range 3 {
			b.does(t, "cleared", u, deed{drop, 0, 0, nil})
			if sector, e := b.d.Read(stageAt(3, 1)); e != api.OK || !bytes.Equal(sector, make([]byte, sectorSize)) {
				t.Errorf("the stage's sector: %x, %v", sector, e)
			}
		}
		b.does(t, "put", u, deed{put, 8, 0, block(1)})
	}
}

// P11.2: Put.

// around are block numbers just within and just beyond n, far beyond it, and those of which fewer bits would be within.
func around(n int) []int {
	return []int{-1, 0, n - 1, n, n + 1, 9, 10, 11, 15, 16, 17, 31, 32, 63, 64, 65, 255, 256, 1 << 16, 1<<32 + n - 1, 1 << 32, -2, -16, -64, -1 << 32, math.MinInt, math.MinInt + 1, math.MaxInt, math.MaxInt - 1, 1 << 62}
}

func TestPutNumbers(t *testing.T) {
	for size := 1; size <= greatest; size++ {
		if size > 33 && size%blockSize > 1 {
			continue
		}
		b, u := one(t, 1, 0)
		for _, no := range around(blocksOf(size)) {
			b.does(t, "begun", u, deed{begin, 4, size, nil})
			b.does(t, "put", u, deed{put, 4, no, block(no & 63)})
		}
	}
}

func TestPutData(t *testing.T) {
	b, u := one(t, 2, 0)
	b.does(t, "begun", u, deed{begin, 4, 100, nil})
	for _, n := range []int{0, 1, 8, 15, 17, 31, 32, 64, 160, 272, 65536 + 16} {
		b.does(t, "too few or too many", u, deed{put, 4, 1, make([]byte, n)})
	}
	b.does(t, "nil", u, deed{put, 4, 1, nil})
	for no := range 7 {
		long := slices.Concat(block(no), block(no+90))
		b.does(t, "spare room", u, deed{put, 4, no, long[:blockSize]})
	}
	for _, n := range []int{0, 15, 16, 17} {
		b.does(t, "there", u, deed{put, 4, 1, make([]byte, n)})
	}
}

func TestPutSessions(t *testing.T) {
	b, u := one(t, 2, 0)
	for _, session := range []int{1, 256, 65535} {
		b.does(t, "begun", u, deed{begin, session, 40, nil})
		for i, other := range append(sessions, session-1, session+1, session+65536, session-65536, session+1<<32, -session, 0) {
			b.does(t, "other session", u, deed{put, other, i % 3, block(i)})
		}
	}
}

// A block that is there isn't written again: with what is there, or with what isn't, when the fuse lets nothing go on, or the disk is down.
func TestPutThere(t *testing.T) {
	b, u := one(t, 0, 1)
	image := b.loaded(t, u, 3, 90, 40)
	for no := range 6 {
		for _, data := range [][]byte{block(40 + no), block(200), make([]byte, blockSize)} {
			b.does(t, "there", u, deed{put, 3, no, data})
		}
	}
	hasBytes(t, "there", u.s, image[:90])
	b.d.Fuse(0)
	if b.d.Flush() != api.ErrDown {
		t.Fatal("the disk isn't down")
	}
	for no := range 6 {
		if e := u.s.Put(3, no, block(200)); e != api.OK {
			t.Errorf("block %d is there, and the disk down: %v", no, e)
		}
	}
	b.d.Power(math.MaxUint64)
	b.same(t, "power is back")
}

// The order of errors.

// Each error with each other, on a disk that is down, or not; of sizes that fill their last block, and that don't.
func TestPutErrors(t *testing.T) {
	for _, size := range []int{16, 40, 48, 64, 65, greatest} {
		n := blocksOf(size)
		for way := range 8 {
			for _, no := range []int{0, n / 2, n - 1, -1, n, n + 1, math.MaxInt} {
				for _, long := range []int{0, 15, 16, 17} {
					b, u := one(t, 2, 1)
					if way&1 == 1 {
						b.does(t, "begun", u, deed{begin, 5, size, nil})
						b.does(t, "put", u, deed{put, 5, n / 2, block(9)})
					}
					d := deed{put, 5 + way>>1&1, no, make([]byte, long)}
					if way&4 == 0 {
						b.does(t, "up", u, d)
					} else {
						b.refuses(t, u, d)
					}
				}
			}
		}
	}
}

// refuses says whether a deed answers what it should if the disk is down ahead of it; nothing comes of it.
func (b *bench) refuses(t *testing.T, u *tried, d deed) {
	t.Helper()
	want, writes, _ := b.makes(u, d)
	if len(writes) > 0 {
		want = api.ErrDown
	}
	b.d.Fuse(0)
	if e := b.d.Flush(); e != api.ErrDown {
		t.Fatalf("the disk isn't down: %v", e)
	}
	if e := u.do(d); e != want {
		t.Errorf("down: %v: %v, want %v", d, e, want)
	}
	b.tells(t, "down", u)
	b.d.Power(math.MaxUint64)
	b.same(t, "power is back")
}

func TestOpenErrors(t *testing.T) {
	down := func(sectors int) *disk.Disk {
		d := disk.New(sectors)
		d.Fuse(0)
		d.Flush()
		return d
	}
	for i, c := range []struct {
		d          *disk.Disk
		part, slot int
		want       api.Errno
	}{
		{nil, 0, 0, api.ErrNil},
		{nil, 4, 2, api.ErrNil},
		{nil, -1, 0, api.ErrNil},
		{down(fullDisk), 4, 0, api.ErrRange},
		{down(fullDisk), 0, 2, api.ErrRange},
		{down(fullDisk), -1, -1, api.ErrRange},
		{down(5), 0, 0, api.ErrRange},
		{down(39), 3, 1, api.ErrRange},
		{down(1), 0, 0, api.ErrRange},
		{down(6), 0, 0, api.ErrDown},
		{down(40), 3, 1, api.ErrDown},
		{down(128), 0, 1, api.ErrDown},
	} {
		if s, e := stage.Open(c.d, c.part, c.slot); s != nil || e != c.want {
			t.Errorf("%d: Open(%d, %d): %v, %v; want %v", i, c.part, c.slot, s, e, c.want)
		}
	}
}

// Of a disk that is down each call tells first what else stands against it; the stage is what it was, and so it is when the power is back.
func TestDown(t *testing.T) {
	for i, st := range []api.Stage{{}, {Session: 5, Size: 40, Have: 2}, {Session: 5, Size: 40, Have: 7}} {
		b := benchOf(t, fullDisk)
		if i > 0 {
			b.lay(t, stageAt(0, 0), sectorOf(st))
		}
		u := b.opened(t, 0, 0)
		for _, d := range []deed{
			{begin, 0, 20, nil},
			{begin, 1, 0, nil},
			{begin, 1, 161, nil},
			{begin, 1, 20, nil},
			{begin, 5, 40, nil},
			{put, 5, 0, block(1)},
			{put, 5, 1, block(1)},
			{put, 5, 2, block(1)},
			{drop, 0, 0, nil},
		} {
			b.refuses(t, u, d)
		}
		b.d.Fuse(0)
		b.d.Flush()
		if s, e := stage.Open(b.d, 0, 0); s != nil || e != api.ErrDown {
			t.Errorf("down: Open: %v, %v", s, e)
		}
		if got, e := u.s.Bytes(); got != nil || e != [...]api.Errno{api.ErrState, api.ErrMissing, api.ErrDown}[i] {
			t.Errorf("down: Bytes: %x, %v", got, e)
		}
		b.d.Power(math.MaxUint64)
		b.same(t, "power is back")
		b.loaded(t, u, 6, 50, 3)
	}
}

// P11.3.

// story is one in which a slot is begun, loaded, begun over that, cleared, and begun again, with calls in between that write nothing.
func story() []deed {
	l := []deed{
		{drop, 0, 0, nil},
		{begin, 1, 40, nil},
		{put, 1, 2, block(1)},
		{put, 1, 0, block(2)},
		{put, 1, 0, block(3)},
		{put, 2, 1, block(4)},
		{put, 1, 1, block(5)},
		{begin, 2, greatest, nil},
		{put, 1, 3, block(6)},
		{put, 2, 9, block(7)},
		{put, 2, 3, block(8)},
		{put, 2, 4, block(9)},
		{put, 2, 3, block(10)},
		{drop, 0, 0, nil},
		{put, 2, 5, block(11)},
		{begin, 2, greatest, nil},
	}
	for no := range 10 {
		l = append(l, deed{put, 2, no * 3 % 10, block(100 + no*3%10)})
	}
	return l
}

// storyImage is what the slot has at the story's end.
func storyImage() []byte {
	var image []byte
	for no := range 10 {
		image = append(image, block(100+no)...)
	}
	return image
}

// putBy tells, of the story's first n deeds, with which bytes each block of its last session was put.
func putBy(l []deed) map[int][]byte {
	m := map[int][]byte{}
	session := 0
	for _, d := range l {
		switch {
		case d.kind == begin:
			session, m = d.session, map[int][]byte{}
		case d.kind == drop:
			session, m = 0, map[int][]byte{}
		case d.session == session && m[d.n] == nil:
			m[d.n] = d.data
		}
	}
	return m
}

// keeps says whether the blocks of the stage that the disk holds have the bytes with which they were put: read past the slot.
func keeps(t *testing.T, b *bench, part, slot int, is api.Stage, put map[int][]byte) {
	t.Helper()
	for no := range 10 {
		if is.Have>>no&1 == 0 {
			continue
		}
		sector, e := b.d.Read(imageAt(part, slot, no/4))
		if e != api.OK || !bytes.Equal(sector[no%4*blockSize:][:blockSize], put[no]) {
			t.Fatalf("block %d: of %x, %v; want %x", no, sector, e, put[no])
		}
	}
}

// The power fails behind each write and each flush of each call, with each subset of what waits being kept, once with a write of somebody else's waiting, too. Opened anew the slot has the stage of before, or what the call makes of it; then the story goes on, with that slot, or with the one that is opened anew, to its end.
func TestPower(t *testing.T) {
	const part, slot = 1, 0
	others := write{stageAt(part, 1), litter(99)}
	for at, d := range story() {
		for goOn := range 4 {
			for keep := range uint64(8) {
				for way := range 4 {
					b, u := one(t, part, slot)
					for _, ahead := range story()[:at] {
						b.does(t, "ahead", u, ahead)
					}
					if _, writes, _ := b.makes(u, d); goOn >= 2*len(writes) {
						continue
					}
					if way&1 == 1 {
						b.waits = append(b.waits, others)
						if e := b.d.Write(others.at, others.b); e != api.OK {
							t.Fatal(e)
						}
					}
					before := u.is
					_, _, after := b.makes(u, d)
					b.fails(t, "power", u, d, goOn, keep)
					anew, e := stage.Open(b.d, part, slot)
					if e != api.OK {
						t.Fatal(e)
					}
					is, _ := anew.Stage()
					if is != before && is != after {
						t.Fatalf("%v: anew %v, neither %v nor %v", d, is, before, after)
					}
					if is == before {
						keeps(t, b, part, slot, is, putBy(story()[:at]))
					} else {
						keeps(t, b, part, slot, is, putBy(story()[:at+1]))
					}
					if way&2 != 0 {
						b.reopen(t, u)
					}
					for _, behind := range story()[at:] {
						b.does(t, "behind", u, behind)
					}
					hasBytes(t, "behind", u.s, storyImage())
				}
			}
		}
	}
}

// How many writes and flushes went on is told by what waits: the block is flushed ahead of the stage that tells of it.
func TestBlockAheadOfStage(t *testing.T) {
	for _, c := range []struct {
		goOn        int
		keep        uint64
		waits       int
		block, tell bool // whether the block is there, and the stage tells of it
	}{
		{0, 1, 0, false, false},
		{1, 0, 1, false, false},
		{1, 1, 1, true, false},
		{1, 2, 1, false, false},
		{2, 1, 0, true, false},
		{3, 0, 1, true, false},
		{3, 1, 1, true, true},
	} {
		d := disk.New(fullDisk)
		s, e := stage.Open(d, 0, 0)
		if e != api.OK || s.Begin(1, 40) != api.OK {
			t.Fatal(e)
		}
		d.Fuse(c.goOn)
		if e := s.Put(1, 1, block(7)); e != api.ErrDown || d.Waits() != c.waits {
			t.Errorf("%v: %v, %d writes wait", c, e, d.Waits())
		}
		if st, _ := s.Stage(); st.Have != 0 {
			t.Errorf("%v: the slot tells %v", c, st)
		}
		d.Power(c.keep)
		sector, _ := d.Read(imageAt(0, 0, 0))
		if bytes.Equal(sector[16:32], block(7)) != c.block {
			t.Errorf("%v: %x", c, sector)
		}
		told, _ := d.Read(stageAt(0, 0))
		if bytes.Equal(told, sectorOf(api.Stage{Session: 1, Size: 40, Have: 2})) != c.tell {
			t.Errorf("%v: %x", c, told)
		}
	}
}

// What went well is flushed: the power that fails then, and keeps nothing, takes nothing.
func TestFlushed(t *testing.T) {
	b, u := one(t, 3, 1)
	for _, d := range story() {
		b.does(t, "done", u, d)
		b.d.Power(0)
		b.same(t, "power is back")
		b.reopen(t, u)
	}
	hasBytes(t, "done", u.s, storyImage())
}

// Slots beside one another.

// All slots of a disk, loaded turn by turn; each has its own sizes, sessions and bytes.
func TestSlotsApart(t *testing.T) {
	b := benchOf(t, fullDisk)
	for part := range 4 {
		for slot := range 2 {
			b.opened(t, part, slot)
		}
	}
	for i, u := range b.all {
		b.does(t, "begun", u, deed{begin, 1 + i%3, greatest - 17*i, nil})
	}
	for no := range 10 {
		for i, u := range b.all {
			b.does(t, "put", u, deed{put, 1 + i%3, no, block(20*i + no)})
		}
	}
	for i, u := range b.all {
		var want []byte
		for no := range 10 {
			want = append(want, block(20*i+no)...)
		}
		hasBytes(t, "whole", u.s, want[:greatest-17*i])
	}
	for _, u := range b.all[:3] {
		b.does(t, "cleared", u, deed{drop, 0, 0, nil})
	}
	for goOn := range 4 {
		b.does(t, "begun", b.all[4], deed{begin, 9, 33, nil})
		b.fails(t, "one fails", b.all[4], deed{put, 9, 0, block(1)}, goOn, 1)
	}
}

// Slots of two disks.
func TestDisksApart(t *testing.T) {
	a, u := one(t, 1, 1)
	b, v := one(t, 1, 1)
	for i, d := range story() {
		a.does(t, "a", u, d)
		b.same(t, "b")
		if i%2 == 1 {
			b.does(t, "b", v, d)
			a.same(t, "a")
		}
	}
}

// R4: memory.

func TestMemory(t *testing.T) {
	b, u := one(t, 2, 1)
	b.does(t, "begun", u, deed{begin, 1, 150, nil})
	for no := range 10 {
		room := slices.Concat(block(60), block(no), block(70))
		was := bytes.Clone(room)
		d := deed{put, 1, no, room[16:32]}
		_, writes, next := b.makes(u, d)
		for range 2 {
			if e := u.do(d); e != api.OK {
				t.Fatal(e)
			}
			if !bytes.Equal(room, was) {
				t.Fatalf("Put changes what it is given: %x", room)
			}
		}
		for _, w := range writes {
			b.laid[w.at] = w.b
		}
		u.is = next
		for i := range room {
			room[i] = 0xee
		}
		b.same(t, "written over")
	}
	first, e := u.s.Bytes()
	second, f := u.s.Bytes()
	if e != api.OK || f != api.OK {
		t.Fatal(e, f)
	}
	was := bytes.Clone(second)
	first = first[:cap(first)]
	for i := range first {
		first[i] = 0xee
	}
	if !bytes.Equal(second, was) {
		t.Errorf("two answers share memory")
	}
	hasBytes(t, "written over", u.s, was)
	b.same(t, "written over")
	u.do(deed{begin, 2, 150, nil})
	if !bytes.Equal(second, was) {
		t.Errorf("Begin changes what was answered")
	}
}

// R2 of a call that is refused: what it is given isn't changed either.
func TestMemoryRefused(t *testing.T) {
	b, u := one(t, 2, 1)
	b.does(t, "begun", u, deed{begin, 1, 20, nil})
	room := slices.Concat(block(60), block(61))
	was := bytes.Clone(room)
	for _, d := range []deed{{put, 2, 0, room[:16]}, {put, 1, 2, room[:16]}, {put, 1, 0, room[:15]}, {put, 1, 0, room[:17]}} {
		b.does(t, "refused", u, d)
	}
	b.fails(t, "down", u, deed{put, 1, 0, room[:16]}, 1, 0)
	if !bytes.Equal(room, was) {
		t.Errorf("Put changes what it is given: %x", room)
	}
}

// R5: the same calls on like disks answer the same.
func TestSameAgain(t *testing.T) {
	b, u := one(t, 0, 0)
	c, v := one(t, 0, 0)
	for i, d := range story() {
		if i%4 == 3 {
			c.reopen(t, v)
		}
		b.does(t, "first", u, d)
		c.does(t, "second", v, d)
		for at := range b.laid {
			x, _ := b.d.Read(at)
			y, _ := c.d.Read(at)
			if !bytes.Equal(x, y) {
				t.Fatalf("sector %d: %x and %x", at, x, y)
			}
		}
	}
}

func TestNil(t *testing.T) {
	var s *stage.Slot
	for _, n := range []int{math.MinInt, -1, 0, 1, 20, math.MaxInt} {
		if e := s.Begin(n, n); e != api.ErrNil {
			t.Errorf("Begin of nil: %v", e)
		}
		for _, data := range [][]byte{nil, block(1), make([]byte, 17)} {
			if e := s.Put(n, n, data); e != api.ErrNil {
				t.Errorf("Put of nil: %v", e)
			}
		}
	}
	if st, is := s.Stage(); is || st != (api.Stage{}) {
		t.Errorf("Stage of nil: %v, %v", st, is)
	}
	if b, e := s.Bytes(); b != nil || e != api.ErrNil {
		t.Errorf("Bytes of nil: %x, %v", b, e)
	}
	if e := s.Clear(); e != api.ErrNil {
		t.Errorf("Clear of nil: %v", e)
	}
}

// walk does to three slots of a disk what the bytes tell, six for each deed: some go well, some are refused, in some the disk goes down; then the slot is opened anew, or goes on as it is.
func walk(t *testing.T, steps []byte) {
	b := benchOf(t, fullDisk)
	for _, at := range [][2]int{{0, 0}, {0, 1}, {3, 1}} {
		b.opened(t, at[0], at[1])
	}
	for step := range slices.Chunk(steps, 6) {
		if len(step) < 6 {
			return
		}
		u := b.all[step[1]%3]
		d := deed{kind: put, session: int(step[2] % 3), n: int(step[3]%13) - 1, data: block(int(step[4]))}
		switch step[0] % 16 {
		case 0, 1:
			d.kind, d.n = begin, int(step[3])*164/255-1
		case 2:
			d.kind = drop
		case 3:
			d.data = d.data[:step[4]%16]
		case 4:
			b.reopen(t, u)
			continue
		default:
			d.session = u.is.Session
		}
		if _, writes, _ := b.makes(u, d); int(step[5]%8) < 2*len(writes) {
			b.fails(t, "walk", u, d, int(step[5]%8), uint64(step[5]>>4))
			if step[5]>>3&1 == 1 {
				b.reopen(t, u)
			}
			continue
		}
		b.does(t, "walk", u, d)
	}
}

func TestWalk(t *testing.T) {
	for seed := range uint32(60) {
		steps := make([]byte, 6*300)
		x := seed
		for i := range steps {
			x = x*1664525 + 1013904223
			steps[i] = byte(x >> 24)
		}
		walk(t, steps)
	}
}

func FuzzStage(f *testing.F) {
	f.Add([]byte{0, 0, 1, 60, 0, 7, 5, 0, 0, 1, 9, 7, 5, 0, 0, 2, 10, 0x11, 5, 0, 0, 2, 11, 7})
	f.Add([]byte{0, 1, 1, 250, 0, 7, 5, 1, 0, 1, 9, 3, 4, 1, 0, 0, 0, 0, 2, 1, 0, 0, 0, 1, 0, 1, 2, 30, 0, 0x19})
	f.Add(bytes.Repeat([]byte{1, 2, 1, 200, 0, 7, 6, 2, 0, 5, 4, 0x1b, 7, 2, 0, 6, 3, 7}, 20))
	f.Fuzz(walk)
}
