package loader_test

import (
	"bytes"
	"crypto/sha256"
	"encoding/binary"
	"hash/crc32"
	"slices"
	"strconv"
	"testing"

	"longeron/api"
	"longeron/disk"
	"longeron/image"
	"longeron/loader"
	"longeron/pdu"
	"longeron/store"
)

const (
	parts     = 3
	trial     = 2
	sectors   = 10*parts + 2
	blockSize = 16
	noFuse    = -1
)

// tabled is the frame table of all stores here.
func tabled() api.Table {
	x := api.Table{Frame: 12, Trial: trial, Channels: []api.Channel{{From: 1, To: 2, Depth: 2}}}
	for n := range parts {
		x.Parts = append(x.Parts, api.Part{Mem: 4 + n, Fuel: 9 - n, Hard: 100 * n})
		x.Windows = append(x.Windows, api.Window{Part: n, From: 4 * n, Long: 3})
	}
	return x
}

// coded is an image that fits, of so many bytes of code.
func coded(part, version, long int) api.Image {
	p := tabled().Parts[part]
	i := api.Image{Part: part, Version: version, Hard: p.Hard, Mem: p.Mem, Fuel: p.Fuel}
	for n := range long {
		i.Code = append(i.Code, byte(version+5*n+part))
	}
	return i
}

// bytesOf are an image's.
func bytesOf(t *testing.T, i api.Image) []byte {
	t.Helper()
	b, e := image.Put(i)
	if e != api.OK {
		t.Fatalf("%v has no bytes: %v", i, e)
	}
	return b
}

// summed are bytes with a digest and a sum behind them, as an image's have.
func summed(b []byte) []byte {
	digest := sha256.Sum256(b)
	b = slices.Concat(b, digest[:])
	return binary.BigEndian.AppendUint32(b, crc32.ChecksumIEEE(b))
}

// blocksOf counts the blocks one by one.
func blocksOf(size int) int {
	n := 0
	for ; size > 0; size -= blockSize {
		n++
	}
	return n
}

// blockOf is a block of these bytes, filled with zeros (all of zeros, if there is no such block).
func blockOf(b []byte, no int) []byte {
	block := make([]byte, blockSize)
	copy(block, b[min(len(b), no*blockSize):])
	return block
}

// What is asked, and what is told.

func open(session, part, size int) api.Pdu {
	return api.Pdu{Kind: api.POpen, Session: session, Part: part, Size: size}
}

func block(session, no int, b []byte) api.Pdu {
	return api.Pdu{Kind: api.PBlock, Session: session, No: no, Data: blockOf(b, no)}
}

func done(session int) api.Pdu  { return api.Pdu{Kind: api.PDone, Session: session} }
func abort(session int) api.Pdu { return api.Pdu{Kind: api.PAbort, Session: session} }
func ask(session int) api.Pdu   { return api.Pdu{Kind: api.PAsk, Session: session} }

// well and refused are the answers to p, written out field by field.

func well(p api.Pdu) api.Pdu {
	a := api.Pdu{Kind: 6, Session: p.Session, What: p.Kind}
	if p.Kind == 2 {
		a.No = p.No
	}
	return a
}

func refused(p api.Pdu, e api.Errno) api.Pdu {
	a := api.Pdu{Kind: 7, Session: p.Session, What: p.Kind, Code: int(e)}
	if p.Kind == 2 {
		a.No = p.No
	}
	return a
}

func status(session, part, size, have int) api.Pdu {
	return api.Pdu{Kind: 8, Session: session, Part: part, Size: size, Have: have}
}

// side is a disk, and a store on it.
type side struct {
	d *disk.Disk
	s *store.Store
}

// made is a side whose store was made, of the versions 10 in partition 0, 11 in partition 1, and so on.
func made(t *testing.T) side {
	t.Helper()
	var images []api.Image
	for part := range parts {
		images = append(images, coded(part, 10+part, 1+4*part))
	}
	d := disk.New(sectors)
	s, e := store.Make(d, tabled(), images)
	if e != api.OK {
		t.Fatalf("Make: %v", e)
	}
	return side{d, s}
}

// opened is a side whose disk has these sectors.
func opened(t *testing.T, all [][]byte) side {
	t.Helper()
	d := disk.New(len(all))
	for at, b := range all {
		if d.Write(at, b) != api.OK {
			t.Fatalf("sector %d can't be laid", at)
		}
	}
	d.Flush()
	s, e := store.Open(d, tabled())
	if e != api.OK {
		t.Fatalf("Open: %v", e)
	}
	return side{d, s}
}

// sectorsOf are a disk's, which is up.
func sectorsOf(t *testing.T, d *disk.Disk) [][]byte {
	t.Helper()
	var all [][]byte
	for at := range d.Len() {
		b, e := d.Read(at)
		if e != api.OK {
			t.Fatalf("sector %d: %v", at, e)
		}
		all = append(all, b)
	}
	return all
}

// plain is a loader by the chapter's words, for a store of its own. It goes by the tick at which something of the session was heard last.
type plain struct {
	side
	begun                   bool // a tick was told
	now, heard              int
	open                    bool
	session, part, size     int
	lastSealed, lastAborted int // -1: none
}

func plainOf(s side) plain { return plain{side: s, lastSealed: -1, lastAborted: -1} }

func (m *plain) tick(tick int) bool {
	if !m.begun || tick > m.now {
		m.begun, m.now = true, tick
	}
	if m.open && uint(m.now)-uint(m.heard) >= 20 { // now isn't below heard, however far apart they are
		m.open = false
		return true
	}
	return false
}

func (m *plain) hear(p api.Pdu, tick int) (api.Pdu, bool) {
	if !pdu.Right(p) || p.Kind < 1 || p.Kind > 5 {
		return api.Pdu{}, false
	}
	m.tick(tick)
	if m.open && p.Session == m.session {
		m.heard = m.now
	}
	if m.open && p.Session == m.session && p.Kind == api.PAsk {
		if m.d.Down() {
			return api.Pdu{}, false
		}
		have := 0
		if st, _ := m.s.Stage(m.part); st.Session == m.session && st.Size == m.size { // none's session is 0, and that is never open
			have = st.Have
		}
		return status(m.session, m.part, m.size, have), true
	}
	e := m.does(p)
	if m.d.Down() {
		return api.Pdu{}, false
	}
	if e != api.OK {
		return refused(p, e), true
	}
	return well(p), true
}

// does what a message is for, but PAsk of the session that is open.
func (m *plain) does(p api.Pdu) api.Errno {
	if p.Kind == api.POpen {
		return m.opens(p)
	}
	if !m.open {
		if p.Kind == api.PDone && p.Session == m.lastSealed || p.Kind == api.PAbort && p.Session == m.lastAborted {
			return api.OK
		}
		return api.ErrState
	}
	if p.Session != m.session {
		return api.ErrSession
	}
	switch p.Kind {
	case api.PBlock:
		return m.s.Load(m.part, p.Session, p.No, p.Data)
	case api.PDone:
		e := m.s.Seal(m.part, p.Session)
		if e == api.OK {
			m.open, m.lastSealed = false, p.Session
		}
		return e
	}
	m.open = false
	e := m.s.Drop(m.part, p.Session)
	if e == api.OK || e == api.ErrState {
		m.lastAborted = p.Session
		return api.OK
	}
	return e
}

func (m *plain) opens(p api.Pdu) api.Errno {
	if m.open {
		if p.Session != m.session {
			return api.ErrSession
		}
		if p.Part != m.part || p.Size != m.size {
			return api.ErrArg
		}
		return api.OK
	}
	st, is := m.s.Stage(p.Part)
	r := m.s.Record(p.Part)
	goesOn := is && st.Session == p.Session && st.Size == p.Size && r.Active == r.Confirmed
	if !goesOn {
		if e := m.s.Begin(p.Part, p.Session, p.Size); e != api.OK {
			return e
		}
	}
	m.open, m.session, m.part, m.size, m.heard = true, p.Session, p.Part, p.Size, m.now
	return api.OK
}

func (m *plain) tells() (int, int, bool) {
	if !m.open {
		return 0, 0, false
	}
	return m.session, m.part, true
}

// bench is a loader, and a plain one beside it, each for a store of its own, which should be the same.
type bench struct {
	t *testing.T
	side
	l     *loader.Loader
	m     plain
	story []string
}

func begin(t *testing.T) *bench {
	t.Helper()
	return beginOf(t, made(t), made(t))
}

func beginOf(t *testing.T, s, twin side) *bench {
	t.Helper()
	b := &bench{t: t, side: s, l: loader.New(s.s), m: plainOf(twin)}
	if b.l == nil {
		t.Fatal("New: nil")
	}
	b.judge()
	return b
}

func (b *bench) wrong(what string, got, want any) {
	b.t.Helper()
	b.t.Fatalf("behind %v, %s: %v, want %v", b.story[max(0, len(b.story)-20):], what, got, want)
}

// judge says whether both tell the same session, and what their disks hold is the same.
func (b *bench) judge() {
	b.t.Helper()
	b.judgeOpen()
	if b.d.Down() != b.m.d.Down() || b.d.Waits() != b.m.d.Waits() {
		b.wrong("the disk is down, and waits", []any{b.d.Down(), b.d.Waits()}, []any{b.m.d.Down(), b.m.d.Waits()})
	}
	if !b.d.Down() && !slices.EqualFunc(sectorsOf(b.t, b.d), sectorsOf(b.t, b.m.d), bytes.Equal) {
		b.wrong("the disk", "has other sectors", "the same")
	}
	for part := range parts {
		st, is := b.s.Stage(part)
		if want, wantIs := b.m.s.Stage(part); st != want || is != wantIs {
			b.wrong("the stage of "+strconv.Itoa(part), []any{st, is}, []any{want, wantIs})
		}
		if r, want := b.s.Record(part), b.m.s.Record(part); r != want {
			b.wrong("the record of "+strconv.Itoa(part), r, want)
		}
	}
}

// judgeOpen asks twice, as asking changes nothing.
func (b *bench) judgeOpen() {
	b.t.Helper()
	for range 2 {
		session, part, is := b.l.Open()
		if s, p, want := b.m.tells(); session != s || part != p || is != want {
			b.wrong("Open", []any{session, part, is}, []any{s, p, want})
		}
	}
}

// shown is p as a story tells it.
func shown(p api.Pdu) string {
	s := "kind " + strconv.Itoa(p.Kind)
	for _, f := range []struct {
		name string
		n    int
	}{{"session", p.Session}, {"part", p.Part}, {"size", p.Size}, {"no", p.No}, {"what", p.What}, {"code", p.Code}, {"have", p.Have}} {
		if f.n != 0 {
			s += " " + f.name + " " + strconv.Itoa(f.n)
		}
	}
	return s
}

func (b *bench) tell(what string) { b.story = append(b.story, what) }

// hear says whether both answer the same, and neither changes nor keeps what it is given, which has spare room that isn't its. It answers what they do.
func (b *bench) hear(p api.Pdu, tick int) (api.Pdu, bool) {
	b.t.Helper()
	b.tell(shown(p) + " at " + strconv.Itoa(tick))
	data := append(bytes.Clone(p.Data), 0xaa, 0xbb)
	given := p
	given.Data = data[:len(p.Data)]
	got, is := b.l.Hear(given, tick)
	if !bytes.Equal(data, append(bytes.Clone(p.Data), 0xaa, 0xbb)) {
		b.wrong("what was handed in", data, p.Data)
	}
	for i := range data {
		data[i] ^= 0x5a
	}
	if want, wantIs := b.m.hear(p, tick); is != wantIs || !pdu.Same(got, want) {
		b.wrong("the answer", []any{shown(got), is}, []any{shown(want), wantIs})
	}
	if is && !pdu.Right(got) {
		b.wrong("the answer", shown(got), "a message")
	}
	b.judge()
	return got, is
}

// answers says, of a message, whether that is what is answered.
func (b *bench) answers(p api.Pdu, tick int, want api.Pdu) {
	b.t.Helper()
	if got, is := b.hear(p, tick); !is || !pdu.Same(got, want) {
		b.wrong("the answer", []any{shown(got), is}, shown(want))
	}
}

func (b *bench) well(p api.Pdu, tick int) {
	b.t.Helper()
	b.answers(p, tick, well(p))
}

func (b *bench) refuses(p api.Pdu, tick int, e api.Errno) {
	b.t.Helper()
	b.answers(p, tick, refused(p, e))
}

func (b *bench) nothing(p api.Pdu, tick int) {
	b.t.Helper()
	if got, is := b.hear(p, tick); is || !pdu.Same(got, api.Pdu{}) {
		b.wrong("the answer", []any{shown(got), is}, "nothing")
	}
}

// tick answers what Tick did.
func (b *bench) tick(tick int) bool {
	b.t.Helper()
	b.tell("tick " + strconv.Itoa(tick))
	got, want := b.l.Tick(tick), b.m.tick(tick)
	if got != want {
		b.wrong("Tick", got, want)
	}
	b.judge()
	return got
}

// ticks says whether Tick answers that.
func (b *bench) ticks(tick int, want bool) {
	b.t.Helper()
	if b.tick(tick) != want {
		b.wrong("Tick", !want, want)
	}
}

// isOpen says whether that session is open, for that partition.
func (b *bench) isOpen(session, part int) {
	b.t.Helper()
	if s, p, is := b.l.Open(); !is || s != session || p != part {
		b.wrong("Open", []any{s, p, is}, []any{session, part, true})
	}
}

// noneOpen says whether no session is.
func (b *bench) noneOpen() {
	b.t.Helper()
	if s, p, is := b.l.Open(); is || s != 0 || p != 0 {
		b.wrong("Open", []any{s, p, is}, []any{0, 0, false})
	}
}

// staged says whether that is what a partition's stage has.
func (b *bench) staged(part int, want api.Stage) {
	b.t.Helper()
	if st, is := b.s.Stage(part); st != want || is != (want != api.Stage{}) {
		b.wrong("the stage", []any{st, is}, want)
	}
}

// past does that to both stores, past the loaders.
func (b *bench) past(what string, do func(s *store.Store) api.Errno, want api.Errno) {
	b.t.Helper()
	b.tell(what)
	e, f := do(b.s), do(b.m.s)
	if e != want || f != want {
		b.wrong("it", []any{e, f}, want)
	}
}

// fuse gives both disks one.
func (b *bench) fuse(n int) {
	b.tell("fuse " + strconv.Itoa(n))
	b.d.Fuse(n)
	b.m.d.Fuse(n)
}

// take takes both disks down.
func (b *bench) take() {
	b.t.Helper()
	b.fuse(0)
	b.d.Flush()
	b.m.d.Flush()
	if !b.d.Down() || !b.m.d.Down() {
		b.t.Fatal("the disk isn't down")
	}
}

// power lets the power fail, and come back; the stores are opened, and the loaders made, anew.
func (b *bench) power(keep uint64) {
	b.t.Helper()
	b.tell("power " + strconv.FormatUint(keep, 2))
	b.d.Power(keep)
	b.m.d.Power(keep)
	b.anew()
}

// anew opens the stores, and makes the loaders, anew.
func (b *bench) anew() {
	b.t.Helper()
	b.tell("anew")
	for _, s := range []*side{&b.side, &b.m.side} {
		x, e := store.Open(s.d, tabled())
		if e != api.OK {
			b.wrong("Open of the store", e, api.OK)
		}
		s.s = x
	}
	b.l, b.m = loader.New(b.s), plainOf(b.m.side)
	b.judge()
}

// loads lets a session load all these bytes but some blocks, from tick on, one tick each; it answers the next tick.
func (b *bench) loads(session, part int, bs []byte, tick int, but ...int) int {
	b.t.Helper()
	b.well(open(session, part, len(bs)), tick)
	for no := range blocksOf(len(bs)) {
		if !slices.Contains(but, no) {
			tick++
			b.well(block(session, no, bs), tick)
		}
	}
	return tick + 1
}

// seals lets it load them all, and be sealed.
func (b *bench) seals(session, part int, bs []byte, tick int) int {
	b.t.Helper()
	tick = b.loads(session, part, bs, tick)
	b.well(done(session), tick)
	return tick + 1
}

// orders calls do with each order of the numbers below n.
func orders(n int, do func(order []int)) {
	order := make([]int, n)
	var lay func(at int)
	lay = func(at int) {
		if at == n {
			do(order)
			return
		}
		for x := range n {
			if !slices.Contains(order[:at], x) {
				order[at] = x
				lay(at + 1)
			}
		}
	}
	lay(0)
}
