package store_test

import (
	"bytes"
	"crypto/sha256"
	"hash/crc32"
	"math"
	"slices"
	"testing"

	"longeron/api"
	"longeron/compat"
	"longeron/disk"
	"longeron/image"
	"longeron/store"
)

const (
	sectorSize = 64
	blockSize  = 16
	greatest   = 160 // bytes of an image
	perPart    = 10  // sectors
	spareRoom  = 5   // sectors behind those of the partitions
	lastSeq    = math.MaxUint32
	noFuse     = -1
)

// far are partition numbers that there never are, and such of which fewer bits would be within.
var far = []int{math.MinInt, math.MinInt + 1, -1 << 32, -65536, -256, -255, -4, -3, -2, -1, 4, 5, 255, 256, 257, 65536, 65537, 1 << 32, 1<<32 + 1, 1 << 62, math.MaxInt - 1, math.MaxInt}

// The disk's layout, as chapter 9's words have it.

func copyAt(part, i int) int       { return perPart*part + i }
func stageAt(part, slot int) int   { return perPart*part + 2 + 4*slot }
func dataAt(part, slot, i int) int { return stageAt(part, slot) + 1 + i }

// inRecord and inSlot tell whether a sector is one of a partition's copies, or of a slot's.
func inRecord(at, part int) bool { return at == copyAt(part, 0) || at == copyAt(part, 1) }
func inSlot(at, part, slot int) bool {
	return at >= stageAt(part, slot) && at <= dataAt(part, slot, 2)
}

func summed(b []byte) []byte {
	n := crc32.ChecksumIEEE(b)
	return append(b, byte(n>>24), byte(n>>16), byte(n>>8), byte(n))
}

// filled is a sector that begins with b.
func filled(b []byte) []byte { return append(b, make([]byte, sectorSize-len(b))...) }

// recordSector, stageSector and imageBytes are as the words of chapters 7 and 6 have them.

func recordSector(r api.Record) []byte {
	return filled(summed([]byte{0x4c, 0x43, byte(r.Part), byte(r.Seq >> 24), byte(r.Seq >> 16), byte(r.Seq >> 8), byte(r.Seq), byte(r.Active), byte(r.Confirmed), byte(r.Left), byte(r.Bad)}))
}

func stageSector(s api.Stage) []byte {
	return filled(summed([]byte{0x4c, 0x53, byte(s.Session >> 8), byte(s.Session), byte(s.Size >> 8), byte(s.Size), byte(s.Have >> 8), byte(s.Have)}))
}

func imageBytes(i api.Image) []byte {
	b := []byte{0x4c, 0x49, byte(i.Part), byte(i.Version >> 8), byte(i.Version), byte(i.Hard >> 8), byte(i.Hard), byte(i.Mem), byte(i.Fuel), byte(i.Sends), byte(i.Receives), byte(len(i.Code) >> 8), byte(len(i.Code))}
	b = append(b, i.Code...)
	digest := sha256.Sum256(b)
	return summed(append(b, digest[:]...))
}

// blocksOf counts the blocks one by one.
func blocksOf(size int) int {
	n := 0
	for ; size > 0; size -= blockSize {
		n++
	}
	return n
}

// litter is what stands in a sector that nobody has cleared; it is neither record nor stage.
func litter(at int) []byte {
	b := make([]byte, sectorSize)
	for i := range b {
		b[i] = byte(7*at + 3*i + 1)
	}
	return b
}

// tabled is a right table of so many partitions, each with numbers of its own.
func tabled(parts, trial int) api.Table {
	x := api.Table{Frame: 20, Trial: trial, Channels: []api.Channel{{From: 1, To: 0, Depth: 2}, {From: 0, To: parts - 1}, {From: parts - 1, To: 0, Depth: 4}}}
	for n := range parts {
		x.Parts = append(x.Parts, api.Part{Mem: 3 + n*4, Fuel: 30 - n*7, Hard: n * 300})
		x.Windows = append(x.Windows, api.Window{Part: n, From: 5 * n, Long: 4})
	}
	return x
}

// coded is an image that fits, of so many bytes of code.
func coded(x api.Table, part, version, long int) api.Image {
	p := x.Parts[part]
	i := api.Image{Part: part, Version: version, Hard: p.Hard, Mem: p.Mem, Fuel: p.Fuel}
	for n := range long {
		i.Code = append(i.Code, byte(version+3*n+part))
	}
	for n, c := range x.Channels {
		if c.From == part {
			i.Sends |= 1 << n
		}
		if c.To == part {
			i.Receives |= 1 << n
		}
	}
	return i
}

// firsts are the images that a store of x is made of: versions 10, 11, and so on, each of another length.
func firsts(x api.Table) []api.Image {
	var l []api.Image
	for part := range x.Parts {
		l = append(l, coded(x, part, 10+part, 1+9*part))
	}
	return l
}

// held is what a slot has: its stage (the zero one, if none), and the blocks that were put.
type held struct {
	st   api.Stage
	data [greatest]byte
}

// owned is what a partition has.
type owned struct {
	r     api.Record
	slots [2]held
}

// world is what all partitions have, as far as a store tells.
type world []owned

// laidIn is a slot into which all bytes were loaded.
func laidIn(session int, b []byte) held {
	h := held{st: api.Stage{Session: session, Size: len(b), Have: 1<<blocksOf(len(b)) - 1}}
	copy(h.data[:], b)
	return h
}

// madeOf is what a store is made of.
func madeOf(images []api.Image) world {
	var w world
	for part, i := range images {
		w = append(w, owned{r: api.Record{Part: part, Seq: 1}, slots: [2]held{laidIn(1, imageBytes(i))}})
	}
	return w
}

// bytes are a slot's, or why there are none.
func (h held) bytes() ([]byte, api.Errno) {
	switch {
	case h.st == api.Stage{}:
		return nil, api.ErrState
	case h.st.Have != 1<<blocksOf(h.st.Size)-1:
		return nil, api.ErrMissing
	}
	return h.data[:h.st.Size], api.OK
}

// tells is the image in a slot, or why there is none, the disk up or down.
func (h held) tells(down bool) (api.Image, api.Errno) {
	b, e := h.bytes()
	switch {
	case e != api.OK:
		return api.Image{}, e
	case down:
		return api.Image{}, api.ErrDown
	}
	return image.Get(b)
}

// deed is a call on a partition that may write.
type deed struct {
	kind, part, session, n int // n: how many bytes, or which block
	data                   []byte
}

const (
	begin = iota
	load
	drop
	seal
	boot
	confirm
)

func (d deed) to(s *store.Store) (api.Image, api.Errno) {
	switch d.kind {
	case begin:
		return api.Image{}, s.Begin(d.part, d.session, d.n)
	case load:
		return api.Image{}, s.Load(d.part, d.session, d.n, d.data)
	case drop:
		return api.Image{}, s.Drop(d.part, d.session)
	case seal:
		return api.Image{}, s.Seal(d.part, d.session)
	case boot:
		return s.Boot(d.part)
	}
	return api.Image{}, s.Confirm(d.part)
}

// outcome is what a deed answers, how many sectors it writes, each flushed ahead of the next one, and what there is then.
type outcome struct {
	e      api.Errno
	runs   api.Image
	writes int
	then   world
}

// makes tells what the chapter's words make of a deed.
func (w world) makes(x api.Table, d deed, down bool) outcome {
	if d.part < 0 || d.part >= len(w) {
		return outcome{e: api.ErrRange, then: w}
	}
	p := w[d.part]
	o := outcome{then: w}
	switch d.kind {
	case begin, load, drop:
		o.e, o.writes = p.loads(d)
	case seal:
		o.e = p.seals(x, d, down)
		o.writes = 1
	case boot:
		if p.r.Active != p.r.Confirmed {
			o.e, o.writes = p.saves(p.rolled()), 1
		}
		if o.e == api.OK {
			o.runs, o.e = p.slots[p.r.Active].tells(down)
		}
	case confirm:
		o.e, o.writes = api.ErrState, 1
		if p.r.Active != p.r.Confirmed {
			o.e = p.saves(api.Record{Active: p.r.Active, Confirmed: p.r.Active})
		}
	}
	if o.e == api.OK && down && o.writes > 0 {
		o.e = api.ErrDown
	}
	if o.e != api.OK {
		return outcome{e: o.e, then: w}
	}
	o.then = slices.Clone(w)
	o.then[d.part] = p
	return o
}

// loads does what is done to the spare slot.
func (p *owned) loads(d deed) (api.Errno, int) {
	if p.r.Active != p.r.Confirmed {
		return api.ErrTrial, 0
	}
	h := &p.slots[1-p.r.Active]
	if d.kind == begin {
		if d.session < 1 || d.session > 65535 || d.n < 1 || d.n > greatest {
			return api.ErrRange, 0
		}
		h.st = api.Stage{Session: d.session, Size: d.n}
		return api.OK, 1
	}
	switch {
	case h.st == api.Stage{}:
		return api.ErrState, 0
	case h.st.Session != d.session:
		return api.ErrSession, 0
	case d.kind == drop:
		h.st = api.Stage{}
		return api.OK, 1
	case d.n < 0 || d.n >= blocksOf(h.st.Size):
		return api.ErrRange, 0
	case len(d.data) != blockSize:
		return api.ErrSize, 0
	case h.st.Have>>d.n&1 == 1:
		return api.OK, 0
	}
	h.st.Have += 1 << d.n
	copy(h.data[d.n*blockSize:], d.data)
	return api.OK, 2
}

func (p *owned) seals(x api.Table, d deed, down bool) api.Errno {
	if p.r.Active != p.r.Confirmed {
		return api.ErrTrial
	}
	h := p.slots[1-p.r.Active]
	if h.st == (api.Stage{}) {
		return api.ErrState
	}
	if h.st.Session != d.session {
		return api.ErrSession
	}
	next, e := h.tells(down)
	if e != api.OK {
		return e
	}
	runs, _ := p.slots[p.r.Active].tells(false)
	if e := compat.Check(x, d.part, next, runs.Version); e != api.OK {
		return e
	}
	return p.saves(api.Record{Active: 1 - p.r.Active, Confirmed: p.r.Active, Left: x.Trial})
}

// rolled is a trial's record behind a boot.
func (p *owned) rolled() api.Record {
	if p.r.Left > 0 {
		return api.Record{Active: p.r.Active, Confirmed: p.r.Confirmed, Left: p.r.Left - 1}
	}
	return api.Record{Active: p.r.Confirmed, Confirmed: p.r.Confirmed, Bad: p.r.Active + 1} // the bit of slot 0 is 1, that of slot 1 is 2
}

func (p *owned) saves(r api.Record) api.Errno {
	if p.r.Seq == lastSeq {
		return api.ErrFull
	}
	r.Part, r.Seq = p.r.Part, p.r.Seq+1
	p.r = r
	return api.OK
}

// bench is a disk, a store on it, and what that should tell.
type bench struct {
	d    *disk.Disk
	x    api.Table
	s    *store.Store
	told world
}

// blank is a disk of so many sectors, each of which has litter.
func blank(t *testing.T, sectors int) *disk.Disk {
	t.Helper()
	var all [][]byte
	for at := range sectors {
		all = append(all, litter(at))
	}
	return diskOf(t, all)
}

// diskOf is a disk of these sectors.
func diskOf(t *testing.T, sectors [][]byte) *disk.Disk {
	t.Helper()
	d := disk.New(len(sectors))
	for at, b := range sectors {
		lay(t, d, at, b)
	}
	return d
}

// lay puts that into a sector, past the store.
func lay(t *testing.T, d *disk.Disk, at int, b []byte) {
	t.Helper()
	if d.Write(at, b) != api.OK || d.Flush() != api.OK {
		t.Fatalf("sector %d can't be laid", at)
	}
}

// sectorsOf are a disk's.
func sectorsOf(t *testing.T, d *disk.Disk) [][]byte {
	t.Helper()
	var all [][]byte
	for at := range d.Len() {
		b, e := d.Read(at)
		if e != api.OK {
			t.Fatalf("sector %d: %v", at, e)
		}
		all = append(all, b)
	}
	return all
}

// take takes a disk down.
func take(t *testing.T, d *disk.Disk) {
	t.Helper()
	d.Fuse(0)
	if e := d.Flush(); e != api.ErrDown || !d.Down() {
		t.Fatalf("the disk isn't down: %v", e)
	}
}

// sectorsFor is how many sectors a bench's disk has.
func sectorsFor(x api.Table) int { return perPart*len(x.Parts) + spareRoom }

// made is a store that is made of these.
func made(t *testing.T, x api.Table, images []api.Image) *bench {
	t.Helper()
	b := &bench{d: blank(t, sectorsFor(x)), x: x, told: madeOf(images)}
	s, e := store.Make(b.d, x, images)
	if s == nil || e != api.OK {
		t.Fatalf("Make: %v", e)
	}
	b.s = s
	b.same(t, "made")
	return b
}

// one is a store of so many partitions.
func one(t *testing.T, parts, trial int) *bench {
	t.Helper()
	x := tabled(parts, trial)
	return made(t, x, firsts(x))
}

// put lays a world onto a disk, past the store, and opens it: what is odd in a row has its record in the second copy.
func put(t *testing.T, x api.Table, w world, way int) *bench {
	t.Helper()
	all := sectorsOf(t, blank(t, sectorsFor(x)))
	for part, p := range w {
		in := (way + part) % 2
		all[copyAt(part, in)] = recordSector(p.r)
		if p.r.Seq > 1 {
			all[copyAt(part, 1-in)] = recordSector(api.Record{Part: part, Seq: p.r.Seq - 1, Active: p.r.Confirmed, Confirmed: p.r.Confirmed})
		}
		for slot, h := range p.slots {
			if h.st != (api.Stage{}) {
				all[stageAt(part, slot)] = stageSector(h.st)
				room := append(bytes.Clone(h.data[:]), make([]byte, 3*sectorSize-greatest)...)
				for i := range 3 {
					all[dataAt(part, slot, i)] = room[i*sectorSize : (i+1)*sectorSize]
				}
			}
		}
	}
	b := &bench{d: diskOf(t, all), x: x, told: w}
	b.reopen(t, "put")
	b.same(t, "put")
	return b
}

// reopen opens the store anew.
func (b *bench) reopen(t *testing.T, what string) {
	t.Helper()
	s, e := store.Open(b.d, b.x)
	if s == nil || e != api.OK {
		t.Fatalf("%s: Open: %v", what, e)
	}
	b.s = s
}

// tells says whether a store tells that, and of partitions that there aren't nothing.
func (b *bench) tells(t *testing.T, what string, s *store.Store, w world) {
	t.Helper()
	for part, p := range w {
		if got := s.Record(part); got != p.r {
			t.Fatalf("%s: Record(%d): %v, want %v", what, part, got, p.r)
		}
		st := p.slots[1-p.r.Confirmed].st
		if got, is := s.Stage(part); got != st || is != (st != api.Stage{}) {
			t.Fatalf("%s: Stage(%d): %v, %v; want %v", what, part, got, is, st)
		}
		want, f := p.slots[p.r.Active].tells(b.d.Down())
		if got, e := s.Image(part); e != f || !image.Same(got, want) {
			t.Fatalf("%s: Image(%d): %v, %v; want %v, %v", what, part, got, e, want, f)
		}
	}
	for _, part := range []int{-1, len(w), len(w) + 1} {
		b.tellsNothing(t, what, s, part, api.ErrRange)
	}
}

// tellsNothing says whether a store tells nothing of a partition.
func (b *bench) tellsNothing(t *testing.T, what string, s *store.Store, part int, want api.Errno) {
	t.Helper()
	r := s.Record(part)
	st, is := s.Stage(part)
	i, e := s.Image(part)
	if r != (api.Record{}) || st != (api.Stage{}) || is || !image.Same(i, api.Image{}) || e != want {
		t.Fatalf("%s: of partition %d: %v; %v, %v; %v, %v", what, part, r, st, is, i, e)
	}
}

// same says whether the store tells what it should, as it is and opened anew; and that asking writes nothing, as it would take the disk down.
func (b *bench) same(t *testing.T, what string) {
	t.Helper()
	if b.d.Waits() != 0 || b.d.Down() {
		t.Fatalf("%s: %d writes wait, Down %v", what, b.d.Waits(), b.d.Down())
	}
	b.d.Fuse(0)
	b.tells(t, what, b.s, b.told)
	s, e := store.Open(b.d, b.x)
	if e != api.OK {
		t.Fatalf("%s: Open: %v", what, e)
	}
	b.tells(t, what+", opened anew", s, b.told)
	if b.d.Down() {
		t.Fatalf("%s: asking writes, or flushes", what)
	}
	b.d.Fuse(noFuse)
}

// does says whether a deed does what it should, and touches no sector but those that it is for. The fuse lets go on just what it is to write and flush: one more of either would take the disk down. What it is given has spare room that isn't its.
func (b *bench) does(t *testing.T, what string, d deed) outcome {
	t.Helper()
	o := b.told.makes(b.x, d, false)
	ahead := sectorsOf(t, b.d)
	data := append(bytes.Clone(d.data), 0xaa, 0xbb)
	given := d
	given.data = data[:len(d.data)]
	b.d.Fuse(2 * o.writes)
	runs, e := given.to(b.s)
	if e != o.e || !image.Same(runs, o.runs) || b.d.Down() {
		t.Fatalf("%s: %v: %v, %v, Down %v; want %v, %v", what, d, runs, e, b.d.Down(), o.runs, o.e)
	}
	b.d.Fuse(noFuse)
	if !bytes.Equal(data, append(bytes.Clone(d.data), 0xaa, 0xbb)) {
		t.Fatalf("%s: %v changes what it is given", what, d)
	}
	for i := range data {
		data[i] ^= 0x55
	}
	b.touches(t, what, d, o, ahead)
	b.told = o.then
	b.same(t, what)
	return o
}

// touches says whether a deed has left all sectors as they were but those that it is for.
func (b *bench) touches(t *testing.T, what string, d deed, o outcome, ahead [][]byte) {
	t.Helper()
	for at, now := range sectorsOf(t, b.d) {
		its := false
		switch {
		case o.writes == 0:
		case d.kind == begin || d.kind == load || d.kind == drop:
			its = inSlot(at, d.part, 1-b.told[d.part].r.Active)
		default:
			its = inRecord(at, d.part)
		}
		if !its && !bytes.Equal(now, ahead[at]) {
			t.Fatalf("%s: %v touches sector %d", what, d, at)
		}
	}
}

// all does one deed behind the other, none of which is refused.
func (b *bench) all(t *testing.T, what string, l []deed) {
	t.Helper()
	for _, d := range l {
		if o := b.does(t, what, d); o.e != api.OK {
			t.Fatalf("%s: %v: %v", what, d, o.e)
		}
	}
}

// blockOf is a block of these bytes, filled with zeros.
func blockOf(b []byte, no int) []byte {
	return append(bytes.Clone(b), make([]byte, greatest)...)[no*blockSize : (no+1)*blockSize]
}

// loading are the deeds that load all these bytes, the blocks in that order (nil: rising).
func loading(part, session int, b []byte, order []int) []deed {
	l := []deed{{begin, part, session, len(b), nil}}
	if order == nil {
		for no := range blocksOf(len(b)) {
			order = append(order, no)
		}
	}
	for _, no := range order {
		l = append(l, deed{load, part, session, no, blockOf(b, no)})
	}
	return l
}

// sealing are those that load an image, and seal it.
func sealing(session int, i api.Image) []deed {
	return append(loading(i.Part, session, imageBytes(i), nil), deed{kind: seal, part: i.Part, session: session})
}
