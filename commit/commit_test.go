package commit_test

import (
	"bytes"
	"hash/crc32"
	"math"
	"slices"
	"testing"

	"longeron/api"
	"longeron/commit"
	"longeron/disk"
)

const (
	sectorSize = 64
	fullDisk   = 40 // sectors of four partitions
	copies     = 2
	lastSeq    = math.MaxUint32
	noFuse     = -1
)

// copyAt is where a copy stands, as chapter 9's words have it: the copies are the first two of a partition's ten sectors.
func copyAt(part, i int) int { return 10*part + i }

// needed is how many sectors a disk has that goes just as far as a partition's last copy.
func needed(part int) int { return copyAt(part, copies-1) + 1 }

// isRight tells whether r may be a record, as chapter 7's words have it.
func isRight(r api.Record) bool {
	if r.Part < 0 || r.Part > 3 || r.Seq < 1 || r.Seq > lastSeq || r.Left < 0 || r.Left > 7 || r.Bad < 0 || r.Bad > 3 {
		return false
	}
	if r.Active != 0 && r.Active != 1 || r.Confirmed != 0 && r.Confirmed != 1 {
		return false
	}
	bad := [2]bool{r.Bad&1 == 1, r.Bad&2 == 2}
	return !bad[r.Active] && !bad[r.Confirmed] && (r.Left == 0 || r.Active != r.Confirmed)
}

// sectorOf is the sector of a record, right or not, as chapter 7's words have it.
func sectorOf(r api.Record) []byte {
	b := []byte{0x4c, 0x43, byte(r.Part), byte(r.Seq >> 24), byte(r.Seq >> 16), byte(r.Seq >> 8), byte(r.Seq), byte(r.Active), byte(r.Confirmed), byte(r.Left), byte(r.Bad)}
	return summed(b)
}

// stageSector is the sector of a stage, which is no record.
func stageSector(session, size int) []byte {
	return summed([]byte{0x4c, 0x53, byte(session >> 8), byte(session), 0, byte(size), 0, 0})
}

func summed(b []byte) []byte {
	n := crc32.ChecksumIEEE(b)
	b = append(b, byte(n>>24), byte(n>>16), byte(n>>8), byte(n))
	return append(b, make([]byte, sectorSize-len(b))...)
}

// recordOf is the record that a sector holds; the zero one, if it holds none.
func recordOf(b []byte) api.Record {
	seq := int(b[3])<<24 | int(b[4])<<16 | int(b[5])<<8 | int(b[6])
	r := api.Record{Part: int(b[2]), Seq: seq, Active: int(b[7]), Confirmed: int(b[8]), Left: int(b[9]), Bad: int(b[10])}
	if !isRight(r) || !bytes.Equal(b, sectorOf(r)) {
		return api.Record{}
	}
	return r
}

// counting is the record that counts of two copies, and which one holds it, as the chapter's words have it; none, if neither does.
func counting(part int, first, second []byte) (api.Record, int, bool) {
	a, b := recordOf(first), recordOf(second)
	isA, isB := a.Seq > 0 && a.Part == part, b.Seq > 0 && b.Part == part
	switch {
	case isA && isB && b.Seq > a.Seq, !isA && isB:
		return b, 1, true
	case isA:
		return a, 0, true
	}
	return api.Record{}, 0, false
}

// litter is what stands in a sector that nobody has cleared; it is no record.
func litter(at int) []byte {
	b := make([]byte, sectorSize)
	for i := range b {
		b[i] = byte(7*at + 3*i + 1)
	}
	return b
}

// rights are what a record may tell, but for its Part and Seq: all of it.
func rights() []api.Record {
	var l []api.Record
	for active := range 2 {
		for confirmed := range 2 {
			for left := range 8 {
				for bad := range 4 {
					r := api.Record{Seq: 1, Active: active, Confirmed: confirmed, Left: left, Bad: bad}
					if isRight(r) {
						r.Seq = 0
						l = append(l, r)
					}
				}
			}
		}
	}
	return l
}

// tried is a log, the record that it should tell, and the copy that holds that.
type tried struct {
	l    *commit.Log
	part int
	is   api.Record
	in   int
}

// write is a sector that is written.
type write struct {
	at int
	b  []byte
}

// bench is a disk, what should be laid in each of its sectors, what was written that waits, and logs that are tried.
type bench struct {
	d     *disk.Disk
	laid  [][]byte
	waits []write
	all   []*tried
}

// benchOf is a disk of so many sectors, each of which has litter.
func benchOf(t *testing.T, sectors int) *bench {
	t.Helper()
	b := &bench{d: disk.New(sectors)}
	for at := range sectors {
		b.laid = append(b.laid, litter(at))
		if e := b.d.Write(at, litter(at)); e != api.OK {
			t.Fatal(e)
		}
	}
	if e := b.d.Flush(); e != api.OK {
		t.Fatal(e)
	}
	return b
}

// lay puts that into a sector, past all logs.
func (b *bench) lay(t *testing.T, at int, sector []byte) {
	t.Helper()
	if b.d.Write(at, sector) != api.OK || b.d.Flush() != api.OK {
		t.Fatalf("sector %d can't be laid", at)
	}
	b.laid[at] = bytes.Clone(sector)
}

// layBoth puts that into a partition's copies.
func (b *bench) layBoth(t *testing.T, part int, first, second []byte) {
	t.Helper()
	b.lay(t, copyAt(part, 0), first)
	b.lay(t, copyAt(part, 1), second)
}

// onDisk is the record that a partition has on the disk, and which copy holds it.
func (b *bench) onDisk(part int) (api.Record, int, bool) {
	return counting(part, b.laid[copyAt(part, 0)], b.laid[copyAt(part, 1)])
}

// finds says whether Open answers what the disk holds; with a log of it, if there is one.
func (b *bench) finds(t *testing.T, what string, part int) *tried {
	t.Helper()
	want, in, is := b.onDisk(part)
	l, e := commit.Open(b.d, part)
	if !is {
		if l != nil || e != api.ErrNone {
			t.Fatalf("%s: Open of partition %d, which has none: %v, %v", what, part, l, e)
		}
		return nil
	}
	if l == nil || e != api.OK || l.Latest() != want {
		t.Fatalf("%s: Open of partition %d: %v, %v; want %v", what, part, l, e, want)
	}
	return &tried{l, part, want, in}
}

// opened opens a log, to be tried.
func (b *bench) opened(t *testing.T, what string, part int) *tried {
	t.Helper()
	u := b.finds(t, what, part)
	if u == nil {
		t.Fatalf("%s: partition %d has no record", what, part)
	}
	b.all = append(b.all, u)
	return u
}

func (b *bench) reopen(t *testing.T, what string, u *tried) {
	t.Helper()
	anew := b.finds(t, what, u.part)
	if anew == nil {
		t.Fatalf("%s: partition %d has no record", what, u.part)
	}
	*u = *anew
}

// same says whether all sectors, and all logs, as they are and opened anew, are what they should be; and that asking writes nothing, as it would take the disk down.
func (b *bench) same(t *testing.T, what string) {
	t.Helper()
	if b.d.Waits() != 0 || b.d.Down() {
		t.Fatalf("%s: %d writes wait, Down %v", what, b.d.Waits(), b.d.Down())
	}
	b.d.Fuse(0)
	for at, want := range b.laid {
		if got, e := b.d.Read(at); e != api.OK || !bytes.Equal(got, want) {
			t.Fatalf("%s: sector %d: %x, %v; want %x", what, at, got, e, want)
		}
	}
	b.tell(t, what)
	for part := range 4 {
		if needed(part) <= len(b.laid) {
			b.finds(t, what, part)
		}
	}
	if b.d.Down() {
		t.Fatalf("%s: asking writes, or flushes", what)
	}
	b.d.Fuse(noFuse)
}

// tell says whether the logs tell what they should.
func (b *bench) tell(t *testing.T, what string) {
	t.Helper()
	for _, u := range b.all {
		if got := u.l.Latest(); got != u.is {
			t.Fatalf("%s: Latest of partition %d: %v, want %v", what, u.part, got, u.is)
		}
	}
}

// makes tells what the chapter's words make of a Save: the error, the record that there is then, and what is written.
func (u *tried) makes(r api.Record) (api.Errno, api.Record, []write) {
	if u.is.Seq == lastSeq {
		return api.ErrFull, u.is, nil
	}
	r.Part, r.Seq = u.part, u.is.Seq+1
	if !isRight(r) {
		return api.ErrRange, u.is, nil
	}
	return api.OK, r, []write{{copyAt(u.part, 1-u.in), sectorOf(r)}}
}

// formatting is what Format writes, each flushed ahead of the next one.
func formatting(part int) []write {
	return []write{{copyAt(part, 1), make([]byte, sectorSize)}, {copyAt(part, 0), sectorOf(api.Record{Part: part, Seq: 1})}}
}

// flushed lays all that waits.
func (b *bench) flushed() {
	for _, w := range b.waits {
		b.laid[w.at] = w.b
	}
	b.waits = nil
}

// saves says whether a Save does what it should. The fuse lets go on just what it is to write and flush: one more of either would take the disk down.
func (b *bench) saves(t *testing.T, what string, u *tried, r api.Record) {
	t.Helper()
	want, next, writes := u.makes(r)
	b.d.Fuse(2 * len(writes))
	if e := u.l.Save(r); e != want || b.d.Down() {
		t.Fatalf("%s: Save of %v behind %v: %v, Down %v; want %v", what, r, u.is, e, b.d.Down(), want)
	}
	b.d.Fuse(noFuse)
	if want == api.OK {
		b.waits = append(b.waits, writes...)
		b.flushed()
		u.is, u.in = next, 1-u.in
	}
	b.same(t, what)
}

// formats says whether Format does what it should; the log is tried from then on.
func (b *bench) formats(t *testing.T, what string, part int) *tried {
	t.Helper()
	b.d.Fuse(4)
	l, e := commit.Format(b.d, part)
	if l == nil || e != api.OK || b.d.Down() {
		t.Fatalf("%s: Format of partition %d: %v, %v, Down %v", what, part, l, e, b.d.Down())
	}
	b.d.Fuse(noFuse)
	b.waits = append(b.waits, formatting(part)...)
	b.flushed()
	u := &tried{l, part, api.Record{Part: part, Seq: 1}, 0}
	b.all = append(b.all, u)
	b.same(t, what)
	return u
}

// fails takes the disk down when so many writes and flushes of a call, which is to write that, have gone on; it says what is there then, and when the power is back, and has kept that of what waited.
func (b *bench) fails(t *testing.T, what string, writes []write, goOn int, keep uint64, call func() api.Errno) {
	t.Helper()
	b.d.Fuse(goOn)
	if e := call(); e != api.ErrDown || !b.d.Down() {
		t.Fatalf("%s: with a fuse of %d: %v, Down %v", what, goOn, e, b.d.Down())
	}
	for i := range goOn {
		if i%2 == 0 {
			b.waits = append(b.waits, writes[i/2])
		} else {
			b.flushed()
		}
	}
	if b.d.Waits() != len(b.waits) {
		t.Fatalf("%s: with a fuse of %d: %d writes wait, want %d", what, goOn, b.d.Waits(), len(b.waits))
	}
	b.tell(t, what+", down")
	b.d.Power(keep)
	for i, w := range b.waits {
		if keep>>i&1 == 1 {
			b.laid[w.at] = w.b
		}
	}
	b.waits = nil
	b.same(t, what+", power is back")
}

// savesNot is a Save in which the disk goes down.
func (b *bench) savesNot(t *testing.T, what string, u *tried, r api.Record, goOn int, keep uint64) {
	t.Helper()
	_, _, writes := u.makes(r)
	b.fails(t, what, writes, goOn, keep, func() api.Errno { return u.l.Save(r) })
}

// formatsNot is a Format in which the disk goes down.
func (b *bench) formatsNot(t *testing.T, what string, part, goOn int, keep uint64) {
	t.Helper()
	b.fails(t, what, formatting(part), goOn, keep, func() api.Errno {
		l, e := commit.Format(b.d, part)
		if l != nil {
			t.Fatalf("%s: Format answers a log beside %v", what, e)
		}
		return e
	})
}

// takeDown takes the disk down, with what is laid as it is.
func (b *bench) takeDown(t *testing.T) {
	t.Helper()
	b.d.Fuse(0)
	if e := b.d.Flush(); e != api.ErrDown || !b.d.Down() {
		t.Fatalf("the disk isn't down: %v", e)
	}
}

// one is a full disk with a log that is formatted.
func one(t *testing.T, part int) (*bench, *tried) {
	t.Helper()
	b := benchOf(t, fullDisk)
	return b, b.formats(t, "formatted", part)
}

// holding is a full disk with a log whose record is r, in that copy; in the other one stands what was there ahead of r.
func holding(t *testing.T, r api.Record, in int) (*bench, *tried) {
	t.Helper()
	b := benchOf(t, fullDisk)
	b.lay(t, copyAt(r.Part, in), sectorOf(r))
	if r.Seq > 1 {
		b.lay(t, copyAt(r.Part, 1-in), sectorOf(api.Record{Part: r.Part, Seq: r.Seq - 1}))
	}
	return b, b.opened(t, "laid", r.Part)
}

// P12.1, P12.2: ordinary.

// The chapter's example.
func TestExample(t *testing.T) {
	d := disk.New(fullDisk)
	l, e := commit.Format(d, 1)
	if e != api.OK || l.Latest() != (api.Record{Part: 1, Seq: 1}) {
		t.Fatalf("Format: %v", e)
	}
	if e := l.Save(api.Record{Active: 1}); e != api.OK {
		t.Errorf("Save: %v", e)
	}
	want := api.Record{Part: 1, Seq: 2, Active: 1}
	if l.Latest() != want {
		t.Errorf("Latest: %v", l.Latest())
	}
	if m, e := commit.Open(d, 1); e != api.OK || m.Latest() != want {
		t.Errorf("Open: %v, %v", m, e)
	}
}

// A log that is saved to more often than a byte counts, opened anew behind each save, and one that isn't; each record there may be comes up.
func TestManySaves(t *testing.T) {
	l := rights()
	for part := range 4 {
		for way := range 2 {
			b, u := one(t, part)
			for i := range 300 {
				b.saves(t, "saved", u, l[(i*5+part)%len(l)])
				if way == 1 {
					b.reopen(t, "opened anew", u)
				}
			}
			if got := u.l.Latest(); got.Seq != 301 || got.Part != part {
				t.Errorf("behind 300 saves: %v", got)
			}
		}
	}
}

// From each record to each other one.
func TestEachBehindEach(t *testing.T) {
	b, u := one(t, 3)
	for _, r := range rights() {
		for _, s := range rights() {
			b.saves(t, "first", u, r)
			b.saves(t, "second", u, s)
		}
	}
}

// A save goes into the copy that doesn't hold the record: by turns, from either on.
func TestOtherCopy(t *testing.T) {
	for in := range copies {
		for way := range 2 {
			b, u := holding(t, api.Record{Part: 2, Seq: 70000, Active: 1}, in)
			for i := range 5 {
				b.saves(t, "saved", u, api.Record{Active: i % 2})
				own, _ := b.d.Read(copyAt(2, (in+i+1)%copies))
				other, _ := b.d.Read(copyAt(2, (in+i)%copies))
				if recordOf(own).Seq != 70001+i || recordOf(other).Seq != 70000+i {
					t.Fatalf("save %d from copy %d: %x there, %x in the other one", i, in, own, other)
				}
				if way == 1 {
					b.reopen(t, "opened anew", u)
				}
			}
		}
	}
}

// P12.1: the edges of Open and Format.

// numbers are partitions just within and beyond, far beyond, and those of which fewer bits would be within, or whose sectors would be reckoned round.
var numbers = []int{math.MinInt, math.MinInt + 1, -1 << 32, -1<<32 + 1, -256, -10, -4, -3, -2, -1, 0, 1, 2, 3, 4, 5, 7, 8, 10, 12, 255, 256, 257, 1 << 16, 1 << 32, 1<<32 + 1, 1 << 61, 1 << 62, 1 << 63 / 10, math.MaxInt - 1, math.MaxInt}

func TestParts(t *testing.T) {
	for _, sectors := range []int{1, 2, 10, 11, 12, 22, 31, 32, 39, 40, 41, 128} {
		b := benchOf(t, sectors)
		for _, part := range numbers {
			if is := part >= 0 && part <= 3 && needed(part) <= sectors; is {
				b.lay(t, copyAt(part, part%2), sectorOf(api.Record{Part: part, Seq: 5}))
				b.opened(t, "just enough", part)
				continue
			}
			b.d.Fuse(0)
			if l, e := commit.Open(b.d, part); l != nil || e != api.ErrRange {
				t.Errorf("%d sectors: Open(%d): %v, %v", sectors, part, l, e)
			}
			if l, e := commit.Format(b.d, part); l != nil || e != api.ErrRange {
				t.Errorf("%d sectors: Format(%d): %v, %v", sectors, part, l, e)
			}
			b.d.Fuse(noFuse)
			b.same(t, "refused")
		}
	}
}

// A disk of just enough sectors serves for both copies; one of fewer doesn't, though the first copy may stand on it.
func TestJustEnough(t *testing.T) {
	for part := range 4 {
		for sectors := 1; sectors < needed(part); sectors++ {
			b := benchOf(t, sectors)
			if first := copyAt(part, 0); first < sectors {
				b.lay(t, first, sectorOf(api.Record{Part: part, Seq: 9}))
			}
			if l, e := commit.Open(b.d, part); l != nil || e != api.ErrRange {
				t.Errorf("%d sectors: Open(%d): %v, %v", sectors, part, l, e)
			}
			if l, e := commit.Format(b.d, part); l != nil || e != api.ErrRange {
				t.Errorf("%d sectors: Format(%d): %v, %v", sectors, part, l, e)
			}
			for at, want := range b.laid {
				if got, e := b.d.Read(at); e != api.OK || !bytes.Equal(got, want) || b.d.Waits() != 0 {
					t.Errorf("%d sectors: sector %d is %x behind calls that are refused", sectors, at, got)
				}
			}
		}
		b := benchOf(t, needed(part))
		u := b.formats(t, "just enough", part)
		for i := range 4 {
			b.saves(t, "just enough", u, api.Record{Active: i % 2})
			b.reopen(t, "just enough", u)
		}
	}
}

// A disk that is new has no record.
func TestOpenNew(t *testing.T) {
	for part := range 4 {
		if l, e := commit.Open(disk.New(fullDisk), part); l != nil || e != api.ErrNone {
			t.Errorf("Open(%d) of a new disk: %v, %v", part, l, e)
		}
	}
}

// Format serves whatever stands in the copies, that of the greatest Seq, too; and again, behind saves.
func TestFormatOver(t *testing.T) {
	for part := range 4 {
		for _, first := range contents(part) {
			for _, second := range contents(part) {
				b := benchOf(t, fullDisk)
				b.layBoth(t, part, first, second)
				b.formats(t, "formatted", part)
			}
		}
		b, u := one(t, part)
		for i := range 4 {
			for range i {
				b.saves(t, "saved", u, api.Record{Active: 1, Left: i})
			}
			b.all = nil
			u = b.formats(t, "formatted again", part)
		}
		b.saves(t, "saved", u, api.Record{Confirmed: 1})
	}
}

// P12.1: which copy counts.

// contents are what may stand in a copy of a partition's: records of it, and what doesn't count.
func contents(part int) [][]byte {
	other := (part + 1) % 4
	l := [][]byte{
		make([]byte, sectorSize),
		bytes.Repeat([]byte{0xff}, sectorSize),
		litter(part),
		stageSector(1, 20),
		stageSector(65535, 160),
		sectorOf(api.Record{Part: other, Seq: 8, Active: 1}),
		sectorOf(api.Record{Part: part ^ 1, Seq: lastSeq}),
		sectorOf(api.Record{Part: part + 4, Seq: 8}),
		sectorOf(api.Record{Part: 255, Seq: 8}),
		sectorOf(api.Record{Part: part, Seq: 0}),
		sectorOf(api.Record{Part: part, Seq: 9, Active: 2}),
		sectorOf(api.Record{Part: part, Seq: 9, Confirmed: 2}),
		sectorOf(api.Record{Part: part, Seq: 9, Left: 1}),
		sectorOf(api.Record{Part: part, Seq: 9, Active: 1, Left: 8}),
		sectorOf(api.Record{Part: part, Seq: 9, Bad: 1}),
		sectorOf(api.Record{Part: part, Seq: 9, Bad: 4}),
	}
	for _, seq := range []int{1, 7, 8, lastSeq} {
		l = append(l, sectorOf(api.Record{Part: part, Seq: seq, Active: 1, Left: 3}))
	}
	return append(l, sectorOf(api.Record{Part: part, Seq: 7, Bad: 2}))
}

// Each content of one copy with each of the other; then a save, which leaves the record where it is.
func TestWhichCounts(t *testing.T) {
	for part := range 4 {
		for _, first := range contents(part) {
			for _, second := range contents(part) {
				b := benchOf(t, fullDisk)
				b.layBoth(t, part, first, second)
				u := b.finds(t, "laid", part)
				b.same(t, "laid")
				if u == nil {
					continue
				}
				b.all = append(b.all, u)
				b.saves(t, "saved", u, api.Record{Active: 1, Left: 5})
				b.reopen(t, "opened anew", u)
			}
		}
	}
}

// The greater Seq counts, in either copy, by all of its four bytes; of two that are one the first copy.
func TestSeqs(t *testing.T) {
	seqs := []int{1, 2, 3, 127, 128, 255, 256, 257, 511, 512, 65535, 65536, 65537, 1<<24 - 1, 1 << 24, 1<<31 - 1, 1 << 31, 1<<31 + 1, lastSeq - 2, lastSeq - 1, lastSeq}
	b := benchOf(t, fullDisk)
	for _, first := range seqs {
		for _, second := range seqs {
			r := api.Record{Part: 1, Seq: first, Active: 1, Left: 2}
			s := api.Record{Part: 1, Seq: second, Confirmed: 1, Left: 4}
			b.layBoth(t, 1, sectorOf(r), sectorOf(s))
			want, in := r, 0
			if second > first {
				want, in = s, 1
			}
			u := b.finds(t, "laid", 1)
			if u == nil || u.is != want || u.in != in {
				t.Fatalf("%v and %v: %v", r, s, u)
			}
			b.all = []*tried{u}
			b.saves(t, "saved", u, api.Record{Bad: 2})
		}
	}
}

// A copy that is spoilt, in any byte, doesn't count: the other one does, though its Seq is lower; if there is none, none does.
func TestSpoilt(t *testing.T) {
	good := api.Record{Part: 2, Seq: 6, Active: 1, Left: 1}
	for in := range copies {
		for at := range sectorSize {
			for _, flip := range []byte{1, 0x80, 0xff} {
				spoilt := sectorOf(api.Record{Part: 2, Seq: 7, Active: 1, Confirmed: 1})
				spoilt[at] ^= flip
				b := benchOf(t, fullDisk)
				b.lay(t, copyAt(2, in), spoilt)
				if u := b.finds(t, "spoilt alone", 2); u != nil {
					t.Fatalf("the test's own words make %v of %x", u.is, spoilt)
				}
				b.lay(t, copyAt(2, 1-in), sectorOf(good))
				u := b.opened(t, "spoilt", 2)
				if u.is != good {
					t.Fatalf("copy %d spoilt: %v", in, u.is)
				}
				b.saves(t, "saved", u, api.Record{Confirmed: 1})
			}
		}
	}
}

// What was written last counts, flushed or not: that is what the disk reads.
func TestOpenUnflushed(t *testing.T) {
	b, _ := one(t, 0)
	r := api.Record{Part: 0, Seq: 2, Active: 1}
	if e := b.d.Write(copyAt(0, 1), sectorOf(r)); e != api.OK {
		t.Fatal(e)
	}
	l, e := commit.Open(b.d, 0)
	if e != api.OK || b.d.Waits() != 1 || l.Latest() != r {
		t.Errorf("%v, %v, %d wait", l, e, b.d.Waits())
	}
}

// P12.2: what is saved.

// Each field with each other, just within and beyond; and each far beyond, and where one of fewer bits would be within.
func TestSaveRange(t *testing.T) {
	b, u := one(t, 1)
	for active := -1; active <= 2; active++ {
		for confirmed := -1; confirmed <= 2; confirmed++ {
			for left := -1; left <= 8; left++ {
				for bad := -1; bad <= 4; bad++ {
					b.saves(t, "saved", u, api.Record{Active: active, Confirmed: confirmed, Left: left, Bad: bad})
				}
			}
		}
	}
	for _, n := range []int{math.MinInt, math.MinInt + 1, -1 << 32, -65536, -256, -255, -2, 8, 16, 128, 255, 256, 257, 65535, 65536, 65537, 1 << 31, 1 << 32, 1<<32 + 1, 1 << 62, math.MaxInt - 1, math.MaxInt} {
		for _, r := range rights() {
			for field := range 4 {
				wrong := r
				*[]*int{&wrong.Active, &wrong.Confirmed, &wrong.Left, &wrong.Bad}[field] = n
				b.d.Fuse(0)
				if e := u.l.Save(wrong); e != api.ErrRange || b.d.Down() {
					t.Fatalf("Save of %v: %v", wrong, e)
				}
				b.d.Fuse(noFuse)
			}
		}
	}
	b.same(t, "refused")
	b.saves(t, "saved", u, api.Record{Active: 1, Left: 7})
}

// The Part and the Seq that r names don't matter: it is saved with the partition's, and the next one.
func TestPartAndSeqOfR(t *testing.T) {
	for part := range 4 {
		b, u := one(t, part)
		for _, p := range numbers {
			for _, s := range append(numbers, lastSeq-1, lastSeq, lastSeq+1, -lastSeq) {
				b.saves(t, "saved", u, api.Record{Part: p, Seq: s, Active: 1, Left: 2})
			}
		}
		b.saves(t, "what the log told", u, u.l.Latest())
	}
}

// Seqs up to the greatest one; behind that ErrFull, whatever is saved. Format begins anew.
func TestFull(t *testing.T) {
	for in := range copies {
		for part := range 4 {
			b, u := holding(t, api.Record{Part: part, Seq: lastSeq - 2, Active: 1, Confirmed: 1}, in)
			for i := range 6 {
				b.saves(t, "saved", u, api.Record{Active: i % 2, Confirmed: 1, Part: 7, Seq: 1})
				if i%2 == 1 {
					b.reopen(t, "opened anew", u)
				}
			}
			b.saves(t, "wrong, and full", u, api.Record{Active: 2})
			b.saves(t, "what is there", u, u.is)
			if u.is.Seq != lastSeq || u.in != in {
				t.Errorf("%v in copy %d", u.is, u.in)
			}
			b.all = nil
			u = b.formats(t, "formatted", part)
			b.saves(t, "behind that", u, api.Record{Active: 1, Left: 1})
		}
	}
}

// The order of errors.

func TestOpenErrors(t *testing.T) {
	down := func(sectors int, part int) *disk.Disk {
		d := disk.New(sectors)
		if part >= 0 {
			if e := d.Write(copyAt(part, 0), sectorOf(api.Record{Part: part, Seq: 3})); e != api.OK || d.Flush() != api.OK {
				t.Fatal(e)
			}
		}
		d.Fuse(0)
		d.Flush()
		return d
	}
	for i, c := range []struct {
		d    *disk.Disk
		part int
		want api.Errno
	}{
		{nil, 0, api.ErrNil},
		{nil, 3, api.ErrNil},
		{nil, 4, api.ErrNil},
		{nil, -1, api.ErrNil},
		{nil, math.MinInt, api.ErrNil},
		{down(fullDisk, 0), 4, api.ErrRange},
		{down(fullDisk, 0), -1, api.ErrRange},
		{down(128, 0), 12, api.ErrRange},
		{down(1, 0), 0, api.ErrRange},
		{down(31, 3), 3, api.ErrRange},
		{down(21, 1), 2, api.ErrRange},
		{down(2, 0), 0, api.ErrDown},
		{down(32, 3), 3, api.ErrDown},
		{down(128, 1), 1, api.ErrDown},
		{down(128, -1), 1, api.ErrDown},
		{down(2, -1), 0, api.ErrDown},
		{down(12, 0), 1, api.ErrDown},
	} {
		if l, e := commit.Open(c.d, c.part); l != nil || e != c.want {
			t.Errorf("%d: Open(%d): %v, %v; want %v", i, c.part, l, e, c.want)
		}
		if l, e := commit.Format(c.d, c.part); l != nil || e != c.want {
			t.Errorf("%d: Format(%d): %v, %v; want %v", i, c.part, l, e, c.want)
		}
		if c.d != nil && c.d.Waits() != 0 {
			t.Errorf("%d: %d writes wait", i, c.d.Waits())
		}
	}
}

// Full, then wrong, then down; each with each other. A save that is refused takes nothing off the fuse, and changes nothing.
func TestSaveErrors(t *testing.T) {
	for _, seq := range []int{1, 9, lastSeq - 1, lastSeq} {
		for _, r := range []api.Record{{Active: 1}, {Left: 3}, {Active: 2}, {Bad: 1}, {Confirmed: -1}} {
			for in := range copies {
				b, u := holding(t, api.Record{Part: 1, Seq: seq}, in)
				b.saves(t, "up", u, r)

				b, u = holding(t, api.Record{Part: 1, Seq: seq}, in)
				b.takeDown(t)
				want, _, writes := u.makes(r)
				if len(writes) > 0 {
					want = api.ErrDown
				}
				for range 2 {
					if e := u.l.Save(r); e != want {
						t.Errorf("down, behind Seq %d: Save of %v: %v, want %v", seq, r, e, want)
					}
				}
				b.tell(t, "down")
				b.d.Power(math.MaxUint64)
				b.same(t, "power is back")
				b.saves(t, "power is back", u, r)
			}
		}
	}
}

// While the disk is down nothing opens, and nothing is formatted; the log tells the record all the same.
func TestDown(t *testing.T) {
	b, u := one(t, 2)
	b.saves(t, "saved", u, api.Record{Active: 1, Left: 4})
	b.takeDown(t)
	for part := range 4 {
		if l, e := commit.Open(b.d, part); l != nil || e != api.ErrDown {
			t.Errorf("down: Open(%d): %v, %v", part, l, e)
		}
		if l, e := commit.Format(b.d, part); l != nil || e != api.ErrDown {
			t.Errorf("down: Format(%d): %v, %v", part, l, e)
		}
	}
	b.tell(t, "down")
	b.d.Power(math.MaxUint64)
	b.same(t, "power is back")
	b.saves(t, "power is back", u, api.Record{Active: 1, Confirmed: 1})
}

// P12.3.

// story is what is saved one behind the other: trials, one that is confirmed, one that is rolled back, and what is refused.
func story() []api.Record {
	return []api.Record{
		{Active: 1, Left: 3},
		{Active: 1, Left: 2},
		{Active: 1, Left: 2, Bad: 1},
		{Active: 1, Confirmed: 1},
		{Confirmed: 1, Left: 7},
		{Confirmed: 1, Left: 6, Part: 3, Seq: 1},
		{Active: 1, Confirmed: 1, Bad: 1},
		{Active: 1, Confirmed: 1, Left: 1},
		{Active: 1, Confirmed: 1},
	}
}

// storyEnd is what is told at the story's end.
var storyEnd = api.Record{Part: 1, Seq: 8, Active: 1, Confirmed: 1}

// others is a write of somebody else's.
var others = write{copyAt(2, 0), litter(99)}

func (b *bench) somebodyWrites(t *testing.T) {
	t.Helper()
	b.waits = append(b.waits, others)
	if e := b.d.Write(others.at, others.b); e != api.OK {
		t.Fatal(e)
	}
}

// The power fails behind each write and each flush of each save, with each subset of what waits being kept, once with a write of somebody else's waiting, too. There always is a record: the one of before, or the one that was being saved. Then the story goes on, with that log, or with one that is opened anew, to its end.
func TestPower(t *testing.T) {
	for at, r := range story() {
		for goOn := range 2 {
			for keep := range uint64(8) {
				for way := range 4 {
					b, u := one(t, 1)
					for _, ahead := range story()[:at] {
						b.saves(t, "ahead", u, ahead)
					}
					want, after, _ := u.makes(r)
					if want != api.OK {
						continue
					}
					if way&1 == 1 {
						b.somebodyWrites(t)
					}
					before := u.is
					b.savesNot(t, "power", u, r, goOn, keep)
					anew := b.finds(t, "power", 1)
					if anew == nil || anew.is != before && anew.is != after {
						t.Fatalf("%v: anew %v, neither %v nor %v", r, anew, before, after)
					}
					own := keep >> (way & 1) & 1
					if kept := goOn == 1 && own == 1; kept != (anew.is == after) {
						t.Fatalf("%v: anew %v with a fuse of %d, kept %b", r, anew.is, goOn, keep)
					}
					going := story()[at:]
					if way&2 != 0 {
						b.reopen(t, "power", u)
						if u.is == after {
							going = going[1:]
						}
					}
					for _, behind := range going {
						b.saves(t, "behind", u, behind)
					}
					if u.l.Latest() != storyEnd {
						t.Fatalf("behind: %v", u.l.Latest())
					}
				}
			}
		}
	}
}

// Several saves that fail, one behind the other, with the log as it is: each leaves the record where it is.
func TestPowerAgain(t *testing.T) {
	l := rights()
	for way := range 256 {
		b, u := holding(t, api.Record{Part: 3, Seq: 50, Active: 1, Left: 1}, way%2)
		for i := range 4 {
			b.savesNot(t, "again", u, l[(way+i)%len(l)], way>>i&1, uint64(way>>(4+i)&1))
			if got := u.l.Latest(); got != (api.Record{Part: 3, Seq: 50, Active: 1, Left: 1}) {
				t.Fatalf("behind %d saves that failed: %v", i+1, got)
			}
		}
		b.saves(t, "at last", u, l[way%len(l)])
		b.reopen(t, "at last", u)
	}
}

// The power fails behind each write and each flush of Format, whatever stands in the copies, with each subset of what waits being kept. What the first copy holds stays there till the new record is flushed.
func TestFormatPower(t *testing.T) {
	const part = 1
	for _, first := range contents(part) {
		for _, second := range contents(part) {
			for goOn := range 4 {
				for keep := range uint64(4) {
					b := benchOf(t, fullDisk)
					b.layBoth(t, part, first, second)
					if keep > 1 {
						b.somebodyWrites(t)
					}
					b.formatsNot(t, "format", part, goOn, keep)
					anew := b.finds(t, "format", part)
					if r := recordOf(first); r.Seq > 0 && r.Part == part && anew == nil {
						t.Fatalf("no record with a fuse of %d, kept %b; %x stood in the first copy", goOn, keep, first)
					}
				}
			}
		}
	}
}

// How many writes and flushes of Format went on is told by what waits, and by the copies: the second one is flushed ahead of the first.
func TestSecondCopyAhead(t *testing.T) {
	older, old := sectorOf(api.Record{Seq: 29}), sectorOf(api.Record{Seq: 30, Active: 1})
	zeros, first := make([]byte, sectorSize), sectorOf(api.Record{Seq: 1})
	for _, c := range []struct {
		goOn       int
		keep       uint64
		waits      int
		one, other []byte // what the copies hold then
	}{
		{0, 1, 0, older, old},
		{1, 0, 1, older, old},
		{1, 1, 1, older, zeros},
		{1, 2, 1, older, old},
		{2, 1, 0, older, zeros},
		{3, 0, 1, older, zeros},
		{3, 1, 1, first, zeros},
		{3, 2, 1, older, zeros},
	} {
		d := disk.New(fullDisk)
		if d.Write(0, older) != api.OK || d.Write(1, old) != api.OK || d.Flush() != api.OK {
			t.Fatal("can't be laid")
		}
		d.Fuse(c.goOn)
		if l, e := commit.Format(d, 0); l != nil || e != api.ErrDown || d.Waits() != c.waits {
			t.Errorf("fuse of %d: %v, %v, %d writes wait", c.goOn, l, e, d.Waits())
		}
		d.Power(c.keep)
		a, _ := d.Read(0)
		b, _ := d.Read(1)
		if !bytes.Equal(a, c.one) || !bytes.Equal(b, c.other) {
			t.Errorf("fuse of %d, kept %b: %x and %x", c.goOn, c.keep, a, b)
		}
	}
}

// What went well is flushed: the power that fails then, and keeps nothing, takes nothing.
func TestFlushed(t *testing.T) {
	b, u := one(t, 1)
	b.d.Power(0)
	b.same(t, "formatted")
	for _, r := range story() {
		b.saves(t, "saved", u, r)
		b.d.Power(0)
		b.same(t, "power is back")
		b.reopen(t, "power is back", u)
	}
	if u.is != storyEnd {
		t.Errorf("at the end: %v", u.is)
	}
}

// Logs beside one another.

// All partitions of a disk, saved to turn by turn, each its own; one fails, one is formatted anew.
func TestPartsApart(t *testing.T) {
	b := benchOf(t, fullDisk)
	for _, part := range []int{2, 0, 3, 1} {
		b.formats(t, "formatted", part)
	}
	l := rights()
	for i := range 40 {
		for j, u := range b.all {
			if (i+j)%(j+2) != 0 {
				b.saves(t, "saved", u, l[(3*i+5*j)%len(l)])
			}
		}
	}
	for goOn := range 2 {
		for keep := range uint64(2) {
			b.savesNot(t, "one fails", b.all[goOn], l[4], goOn, keep)
			b.reopen(t, "one fails", b.all[goOn])
		}
	}
	for goOn := range 4 {
		u := b.all[2]
		b.all = []*tried{b.all[0], b.all[1], b.all[3]}
		b.formatsNot(t, "one is formatted", u.part, goOn, 1)
		b.formats(t, "one is formatted", u.part)
		b.all[2], b.all[3] = b.all[3], b.all[2]
	}
	for _, u := range b.all {
		b.saves(t, "behind", u, l[7])
	}
}

// Logs of two disks.
func TestDisksApart(t *testing.T) {
	a, u := one(t, 1)
	b, v := one(t, 1)
	for i, r := range story() {
		a.saves(t, "a", u, r)
		b.same(t, "b")
		if i%2 == 1 {
			b.saves(t, "b", v, r)
			a.same(t, "a")
		}
	}
}

// R4: memory.

func TestMemory(t *testing.T) {
	b, u := one(t, 2)
	given := []api.Record{{Part: 3, Seq: 44, Active: 1, Left: 5}, {Part: 3, Seq: 45, Active: 1, Confirmed: 1, Bad: 1}, {Left: 1}}
	was := slices.Clone(given)
	for i := range given {
		b.saves(t, "saved", u, given[i])
		if given[i] != was[i] {
			t.Fatalf("Save changes what it is given: %v", given[i])
		}
		given[i] = api.Record{Part: 9, Seq: 9, Active: 9, Confirmed: 9, Left: 9, Bad: 9}
		b.same(t, "written over")
	}
	told := u.l.Latest()
	told.Seq, told.Active, told.Left = 99, 0, 6
	b.same(t, "the answer is written over")
	told = u.l.Latest()
	b.saves(t, "saved", u, api.Record{Confirmed: 1})
	if told != (api.Record{Part: 2, Seq: 3, Active: 1, Confirmed: 1, Bad: 1}) {
		t.Errorf("Save changes what was answered: %v", told)
	}
}

// R5: the same calls on like disks answer the same.
func TestSameAgain(t *testing.T) {
	b, u := one(t, 0)
	c, v := one(t, 0)
	for i, r := range slices.Concat(story(), story(), rights()) {
		if i%4 == 3 {
			c.reopen(t, "second", v)
		}
		b.saves(t, "first", u, r)
		c.saves(t, "second", v, r)
		for at := range b.laid {
			x, _ := b.d.Read(at)
			y, _ := c.d.Read(at)
			if !bytes.Equal(x, y) {
				t.Fatalf("sector %d: %x and %x", at, x, y)
			}
		}
	}
}

func TestNil(t *testing.T) {
	var l *commit.Log
	if r := l.Latest(); r != (api.Record{}) {
		t.Errorf("Latest of nil: %v", r)
	}
	for _, r := range append(rights(), api.Record{Active: 2}, api.Record{Part: -1, Seq: math.MaxInt}, api.Record{Seq: lastSeq}) {
		if e := l.Save(r); e != api.ErrNil {
			t.Errorf("Save to nil: %v", e)
		}
	}
}

// walk does to the logs of a disk's partitions what the bytes tell, five for each deed: some saves go well, some are refused, in some the disk goes down, and so with Format; then the log is opened anew, or goes on as it is.
func walk(t *testing.T, steps []byte) {
	b := benchOf(t, fullDisk)
	for part := range 4 {
		b.formats(t, "walk", part)
	}
	l := rights()
	for step := range slices.Chunk(steps, 5) {
		if len(step) < 5 {
			return
		}
		u := b.all[step[1]%4]
		goOn, keep := int(step[3]%8), uint64(step[4]>>4)
		r := l[int(step[2])%len(l)]
		r.Part, r.Seq = int(step[4])-7, int(step[3])<<(step[4]%60)
		switch step[0] % 16 {
		case 0:
			b.reopen(t, "walk", u)
		case 1:
			r.Left += 1 + int(step[3])%9
			b.saves(t, "walk", u, r)
		case 2:
			r.Bad ^= 1 + int(step[3])%7
			b.saves(t, "walk", u, r)
		case 3:
			if goOn < 4 {
				b.formatsNot(t, "walk", u.part, goOn, keep)
			}
			at := slices.Index(b.all, u)
			b.all = slices.Delete(b.all, at, at+1)
			anew := b.formats(t, "walk", u.part)
			b.all = slices.Insert(b.all[:3], at, anew)
		case 4:
			seq := 1 + int(step[3])<<(step[4]%25)
			b.lay(t, copyAt(u.part, u.in), sectorOf(api.Record{Part: u.part, Seq: seq, Active: int(step[2] & 1)}))
			b.reopen(t, "walk", u)
		case 5, 6:
			if goOn < 2 {
				b.savesNot(t, "walk", u, r, goOn, keep)
				if step[4]>>3&1 == 1 {
					b.reopen(t, "walk", u)
				}
			}
		default:
			b.saves(t, "walk", u, r)
		}
	}
}

func TestWalk(t *testing.T) {
	for seed := range uint32(60) {
		steps := make([]byte, 5*300)
		x := seed
		for i := range steps {
			x = x*1664525 + 1013904223
			steps[i] = byte(x >> 24)
		}
		walk(t, steps)
	}
}

func FuzzCommit(f *testing.F) {
	f.Add([]byte{7, 0, 1, 60, 0, 7, 0, 2, 1, 9, 0, 0, 0, 0, 0, 5, 0, 3, 1, 0x18})
	f.Add([]byte{4, 1, 1, 255, 24, 7, 1, 5, 0, 0, 5, 1, 6, 0, 0x11, 3, 1, 0, 3, 0x10})
	f.Add(bytes.Repeat([]byte{8, 2, 1, 200, 0, 5, 2, 7, 1, 0x1b, 1, 2, 0, 6, 3}, 20))
	f.Fuzz(walk)
}
