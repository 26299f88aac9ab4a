package store_test

import (
	"bytes"
	"math"
	"slices"
	"testing"

	"longeron/api"
	"longeron/disk"
	"longeron/image"
	"longeron/store"
)

// write is a sector that is written.
type write struct {
	at int
	b  []byte
}

// others is a write of somebody else's, into a sector that is no partition's.
func others(x api.Table) write { return write{perPart*len(x.Parts) + 2, litter(77)} }

// making is what Make writes, each flushed ahead of the next one, onto a disk of these sectors.
func making(x api.Table, images []api.Image, sectors [][]byte) []write {
	var l []write
	for part := range x.Parts {
		b := imageBytes(images[part])
		st := api.Stage{Session: 1, Size: len(b)}
		l = append(l, write{stageAt(part, 0), stageSector(st)})
		room := slices.Concat(sectors[dataAt(part, 0, 0)], sectors[dataAt(part, 0, 1)], sectors[dataAt(part, 0, 2)])
		for no := range blocksOf(len(b)) {
			copy(room[no*blockSize:], blockOf(b, no))
			in := no * blockSize / sectorSize
			st.Have |= 1 << no
			l = append(l, write{dataAt(part, 0, in), bytes.Clone(room[in*sectorSize : (in+1)*sectorSize])}, write{stageAt(part, 0), stageSector(st)})
		}
		l = append(l, write{copyAt(part, 1), make([]byte, sectorSize)}, write{copyAt(part, 0), recordSector(api.Record{Part: part, Seq: 1})})
	}
	return l
}

// The power fails behind each write and each flush of Make, on a disk with litter and on one that has a store. Behind that just what was flushed, or kept, is laid, and Make can be done again.
func TestMakePower(t *testing.T) {
	for parts := 2; parts <= 4; parts += 2 {
		x := tabled(parts, 2)
		images := firsts(x)
		images[parts-1] = coded(x, parts-1, 9, 96)
		for had := range 2 {
			sectors := sectorsOf(t, blank(t, sectorsFor(x)))
			if had == 1 {
				b := one(t, parts, 2)
				b.all(t, "had", sealing(4, coded(x, 1, 88, 40)))
				b.all(t, "had", []deed{{kind: boot, part: 1}, {kind: confirm, part: 1}})
				sectors = sectorsOf(t, b.d)
			}
			writes := making(x, images, sectors)
			for goOn := range 2*len(writes) + 1 {
				for keep := range uint64(4) {
					d := diskOf(t, sectors)
					d.Fuse(goOn)
					s, e := store.Make(d, x, images)
					if goOn == 2*len(writes) {
						if s == nil || e != api.OK || d.Down() {
							t.Fatalf("a fuse of %d: %v, Down %v", goOn, e, d.Down())
						}
					} else if s != nil || e != api.ErrDown || !d.Down() || d.Waits() != goOn%2 {
						t.Fatalf("a fuse of %d: %v, Down %v, %d writes wait", goOn, e, d.Down(), d.Waits())
					}
					d.Power(keep)
					laid := slices.Clone(sectors)
					for n, w := range writes {
						if n < goOn/2 || n == goOn/2 && goOn%2 == 1 && keep&1 == 1 {
							laid[w.at] = w.b
						}
					}
					if !slices.EqualFunc(laid, sectorsOf(t, d), bytes.Equal) {
						t.Fatalf("a fuse of %d, kept %b: other sectors are laid", goOn, keep)
					}
					if goOn%7 == 0 {
						if _, e := store.Make(d, x, images); e != api.OK {
							t.Fatalf("again: %v", e)
						}
						opens(t, "made again", d, x, api.OK)
					}
				}
			}
		}
	}
}

// fails is a deed in which the disk goes down when so many writes and flushes have gone on, once with a write of somebody else's waiting, too. It says what the store tells then, as it is and opened anew, when the power is back and has kept that of what waited; it goes on with the store that is opened anew. It tells whether what the deed makes is there.
func (b *bench) fails(t *testing.T, what string, d deed, goOn int, keep uint64, foreign bool) bool {
	t.Helper()
	o := b.told.makes(b.x, d, false)
	waits := goOn % 2
	if foreign {
		w := others(b.x)
		if b.d.Write(w.at, w.b) != api.OK {
			t.Fatal("can't be written")
		}
		if goOn < 2 {
			waits++
		}
	}
	b.d.Fuse(goOn)
	if runs, e := d.to(b.s); e != api.ErrDown || !image.Same(runs, api.Image{}) || !b.d.Down() || b.d.Waits() != waits {
		t.Fatalf("%s: %v with a fuse of %d: %v, %v, Down %v, %d writes wait", what, d, goOn, runs, e, b.d.Down(), b.d.Waits())
	}
	b.tells(t, what+", down", b.s, b.told)
	b.d.Power(keep)
	b.tells(t, what+", power is back", b.s, b.told)
	there := goOn == 2*o.writes-1 && keep>>(waits-1)&1 == 1
	if there {
		b.told = o.then
	}
	b.reopen(t, what+", power is back")
	b.same(t, what+", power is back")
	return there
}

// story is what a partition goes through: an image is loaded in pieces, dropped, loaded, sealed, booted and confirmed; the next one is rolled back, and sealed again.
func story(x api.Table, part int) []deed {
	next := imageBytes(coded(x, part, 50, 20))
	l := loading(part, 5, next, []int{1, 0, 4})
	l = append(l, deed{kind: drop, part: part, session: 5})
	l = append(l, sealing(6, coded(x, part, 50, 20))...)
	l = append(l, deed{kind: boot, part: part}, deed{kind: boot, part: part}, deed{kind: confirm, part: part}, deed{kind: boot, part: part})
	l = append(l, loading(part, 7, []byte{1, 2, 3}, nil)...)
	l = append(l, sealing(8, coded(x, part, 51, 1))...)
	l = append(l, deed{kind: boot, part: part}, deed{kind: boot, part: part}, deed{kind: boot, part: part}, deed{kind: boot, part: part})
	return append(l, deed{kind: seal, part: part, session: 8}, deed{kind: boot, part: part}, deed{kind: confirm, part: part})
}

// The power fails behind each write and each flush of each call of the story, with none, some and all kept of what waits. Then the story goes on, to its end.
func TestPower(t *testing.T) {
	x := tabled(3, 2)
	const part = 1
	b := made(t, x, firsts(x))
	b.all(t, "another one's trial", sealing(99, coded(x, 2, 70, 3)))
	l := story(x, part)
	for at, d := range l {
		sectors, told := sectorsOf(t, b.d), b.told
		o := b.told.makes(x, d, false)
		for goOn := range 2 * o.writes {
			for keep := range uint64(8) {
				c := &bench{d: diskOf(t, sectors), x: x, told: told}
				c.reopen(t, "story")
				going := l[at:]
				if c.fails(t, "story", d, goOn, keep, keep > 1) {
					going = going[1:]
				}
				if keep%3 > 0 {
					continue
				}
				for _, d := range going {
					if o := c.does(t, "behind", d); o.e != api.OK {
						t.Fatalf("behind: %v: %v", d, o.e)
					}
				}
				if r := c.s.Record(part); r.Active != 0 || r.Confirmed != 0 || r.Left != 0 || r.Bad != 0 {
					t.Fatalf("at the end: %v", r)
				}
				if i, e := c.s.Image(part); e != api.OK || i.Version != 51 {
					t.Fatalf("at the end: %v, %v", i, e)
				}
			}
		}
		b.all(t, "story", []deed{d})
	}
}

// Whatever went well is flushed: the power that fails then, and keeps nothing, takes nothing.
func TestFlushed(t *testing.T) {
	for way := range 2 {
		b := one(t, 2, 2)
		for _, d := range story(b.x, 1) {
			b.all(t, "story", []deed{d})
			b.d.Power(0)
			b.same(t, "power is back")
			if way == 1 {
				b.reopen(t, "power is back")
			}
		}
	}
}

// A trial's boots are counted, however often the power fails in them: no more are told than the table says, and just as many where it doesn't.
func TestBootPower(t *testing.T) {
	for trial := 1; trial <= 7; trial++ {
		for way := range 64 {
			b := one(t, 2, trial)
			b.all(t, "sealed", sealing(3, coded(b.x, 1, 30, 5)))
			booted := 0
			for n := range 2 * trial {
				if b.told[1].r.Active == b.told[1].r.Confirmed {
					break
				}
				if way>>(n%6)&1 == 1 {
					b.fails(t, "boot", deed{kind: boot, part: 1}, n%2, uint64(n/2), false)
				} else if o := b.does(t, "boot", deed{kind: boot, part: 1}); o.runs.Version == 30 {
					booted++
				}
			}
			if booted > trial || way == 0 && booted != trial {
				t.Fatalf("Trial %d, way %b: booted %d times", trial, way, booted)
			}
		}
	}
}

// Behind a call that told ErrDown the store goes on as it is, without being opened anew.

// doubtful are worlds of which partition 1 may be written to in each way, and the deeds that do it.
func doubtful(x api.Table) ([]world, []deed) {
	var l []world
	next := imageBytes(coded(x, 1, 307, 5))
	for slot := range 2 {
		part := laidIn(21, next)
		part.st.Have -= 2
		for _, h := range []held{laidIn(21, next), laidIn(21, imageBytes(coded(x, 1, 300, 5))), part, {}} {
			w := confirmedOf(x, slot)
			w[1].slots[1-slot] = h
			l = append(l, w)
		}
		for left := range 2 {
			w := confirmedOf(x, slot)
			w[1].slots[1-slot] = laidIn(21, next)
			w[1].r.Active, w[1].r.Left = 1-slot, left
			l = append(l, w)
		}
	}
	deeds := []deed{
		{begin, 1, 21, len(next), nil}, {begin, 1, 34, 90, nil}, {begin, 1, 34, 1, nil}, {begin, 1, 0, 1, nil},
		{load, 1, 21, 1, blockOf(next, 1)}, {load, 1, 21, 1, make([]byte, blockSize)}, {load, 1, 34, 0, make([]byte, blockSize)},
		{kind: drop, part: 1, session: 21}, {kind: seal, part: 1, session: 21}, {kind: boot, part: 1}, {kind: confirm, part: 1},
	}
	return l, deeds
}

// onDisk says whether what the disk holds opens, and of what the store tells, or what a call that told ErrDown was to make of it: of these, the records, and what runs by them. It answers what the disk holds.
func onDisk(t *testing.T, what string, d *disk.Disk, x api.Table, may ...world) *store.Store {
	t.Helper()
	s, e := store.Open(d, x)
	if e != api.OK {
		t.Fatalf("%s: what was made doesn't open: %v", what, e)
	}
	for part := range x.Parts {
		i, e := s.Image(part)
		is := slices.ContainsFunc(may, func(w world) bool {
			want, f := w[part].slots[w[part].r.Active].tells(false)
			return s.Record(part) == w[part].r && e == f && image.Same(i, want)
		})
		if e != api.OK || !is {
			t.Fatalf("%s: partition %d has %v, and runs %v, %v", what, part, s.Record(part), i, e)
		}
	}
	return s
}

// One deed in which the power fails, and another one behind it that goes well, or fails too: it does what it does where the first one never was; what was made opens all the same, and what runs is what ran, or what was sealed.
func TestGoOn(t *testing.T) {
	x := tabled(2, 3)
	worlds, l := doubtful(x)
	for way, w := range worlds {
		sectors := sectorsOf(t, put(t, x, w, way).d)
		for _, first := range l {
			one := w.makes(x, first, false)
			for goOn := range 2 * one.writes {
				for keep := range uint64(2) {
					for _, second := range l {
						for fuse := noFuse; ; fuse++ {
							b := &bench{d: diskOf(t, sectors), x: x, told: w}
							b.reopen(t, "go on")
							b.d.Fuse(goOn)
							if _, e := first.to(b.s); e != api.ErrDown {
								t.Fatalf("%v: %v", first, e)
							}
							b.d.Power(keep)
							b.tells(t, "go on", b.s, w)
							if b.goesOn(t, first, second, one.then, fuse, uint64(way+goOn)) && fuse >= 0 {
								break
							}
						}
					}
				}
			}
		}
	}
}

// goesOn does a deed behind one in which the power failed, and which was to make that other world; with a fuse. It tells whether the fuse lasted.
func (b *bench) goesOn(t *testing.T, first, second deed, other world, fuse int, keep uint64) bool {
	t.Helper()
	o := b.told.makes(b.x, second, false)
	b.d.Fuse(fuse)
	runs, e := second.to(b.s)
	if b.d.Down() {
		if fuse < 0 || e != api.ErrDown || o.writes == 0 {
			t.Fatalf("%v, then %v with a fuse of %d: %v", first, second, fuse, e)
		}
		b.tells(t, "down again", b.s, b.told)
		b.d.Power(keep)
		b.tells(t, "power is back again", b.s, b.told)
		onDisk(t, "power is back again", b.d, b.x, b.told, other, o.then)
		return false
	}
	if e != o.e || !image.Same(runs, o.runs) {
		t.Fatalf("%v, then %v: %v, %v; want %v, %v", first, second, runs, e, o.runs, o.e)
	}
	b.d.Power(0)
	b.told = o.then
	b.tells(t, "goes on", b.s, b.told)
	if o.writes > 0 {
		b.same(t, "goes on")
	} else {
		onDisk(t, "goes on", b.d, b.x, b.told, other)
	}
	return true
}

// What is told as sealed runs, though a Begin, or a Drop, ahead of it told ErrDown, and the disk kept what it wrote; in each partition, in each slot.
func TestSealBehindDown(t *testing.T) {
	x := tabled(4, 2)
	for part := range x.Parts {
		for slot := range 2 {
			for _, first := range []deed{{begin, part, 9, 160, nil}, {begin, part, 8, 1, nil}, {kind: drop, part: part, session: 8}} {
				b := put(t, x, confirmedOf(x, 1-slot), part)
				l := sealing(8, coded(x, part, 360, 30))
				b.all(t, "loaded", l[:len(l)-1])
				b.d.Fuse(1)
				if _, e := first.to(b.s); e != api.ErrDown {
					t.Fatalf("%v: %v", first, e)
				}
				b.d.Power(1)
				if e := b.s.Seal(part, 8); e != api.OK {
					t.Fatalf("Seal: %v", e)
				}
				b.told = b.told.makes(x, l[len(l)-1], false).then
				b.same(t, "sealed")
				b.reopen(t, "sealed")
				if o := b.does(t, "sealed", deed{kind: boot, part: part}); o.runs.Version != 360 {
					t.Errorf("Boot: %v", o.runs)
				}
			}
		}
	}
}

// A Seal that told ErrDown, and that the disk kept, isn't what runs once the slot is begun anew, or dropped; in each partition, in each slot.
func TestBeginBehindDown(t *testing.T) {
	x := tabled(4, 2)
	for part := range x.Parts {
		for slot := range 2 {
			for _, behind := range []deed{{begin, part, 9, 160, nil}, {kind: drop, part: part, session: 8}} {
				b := put(t, x, confirmedOf(x, 1-slot), part)
				l := sealing(8, coded(x, part, 360, 30))
				b.all(t, "loaded", l[:len(l)-1])
				b.d.Fuse(1)
				if e := b.s.Seal(part, 8); e != api.ErrDown {
					t.Fatalf("Seal: %v", e)
				}
				b.d.Power(1)
				if _, e := behind.to(b.s); e != api.OK {
					t.Fatalf("%v: %v", behind, e)
				}
				b.told = b.told.makes(x, behind, false).then
				b.same(t, "behind")
				b.all(t, "behind", l)
			}
		}
	}
}

// walk does to a store what the bytes tell, five for each deed: some go well, some are refused, in some the disk goes down; then the store is opened anew, or goes on as it is.
func walk(t *testing.T, steps []byte) {
	x := tabled(3, 2)
	b := made(t, x, firsts(x))
	kept := b.told // what the disk holds
	versions := [3]int{20, 20, 20}
	for step := range slices.Chunk(steps, 5) {
		if len(step) < 5 {
			return
		}
		part := int(step[1]) % 3
		versions[part] += int(step[2]) % 2
		for _, d := range walked(x, step, part, versions[part]) {
			o := b.told.makes(x, d, false)
			fuse := noFuse
			if step[3]%4 == 0 {
				fuse = int(step[3]) / 4 % 8
			}
			b.d.Fuse(fuse)
			runs, e := d.to(b.s)
			if down := b.d.Down(); !down && (e != o.e || !image.Same(runs, o.runs)) || down && (e != api.ErrDown || fuse < 0) {
				t.Fatalf("walk: %v: %v, %v; want %v, %v", d, runs, e, o.runs, o.e)
			}
			if !b.d.Down() {
				b.told = o.then
			}
			b.tells(t, "walk", b.s, b.told)
			b.d.Power(uint64(step[4]))
			s := onDisk(t, "walk", b.d, x, kept, b.told, o.then)
			kept = told(t, b.d, x)
			if step[4]>>4&1 == 1 {
				b.s, b.told = s, kept
				b.same(t, "walk, opened anew")
			}
		}
	}
}

// walked are the deeds of a step.
func walked(x api.Table, step []byte, part, version int) []deed {
	next := imageBytes(coded(x, part, version, 1+int(step[2])%40))
	session := 1 + int(step[4])%3
	no := int(step[2]) % 6
	switch step[0] % 12 {
	case 0:
		return []deed{{begin, part, session, 1 + int(step[2])%200, nil}}
	case 1, 2:
		return []deed{{load, part, session, no, blockOf(next, no)}}
	case 3:
		return []deed{{kind: drop, part: part, session: session}}
	case 4, 5:
		return []deed{{kind: seal, part: part, session: session}}
	case 6:
		return []deed{{kind: confirm, part: part}}
	case 7, 8:
		return []deed{{kind: boot, part: part}}
	case 9:
		return sealing(session, coded(x, part, version, 1+int(step[2])%40))
	}
	return loading(part, session, next, nil)
}

// told is what a disk holds, read sector by sector as the words of chapters 6, 7 and 9 have them.
func told(t *testing.T, d *disk.Disk, x api.Table) world {
	t.Helper()
	all := sectorsOf(t, d)
	var w world
	for part := range x.Parts {
		var p owned
		for i := range 2 {
			b := all[copyAt(part, i)]
			r := api.Record{Part: int(b[2]), Seq: int(b[3])<<24 | int(b[4])<<16 | int(b[5])<<8 | int(b[6]), Active: int(b[7]), Confirmed: int(b[8]), Left: int(b[9]), Bad: int(b[10])}
			if bytes.Equal(b, recordSector(r)) && r.Seq > p.r.Seq {
				p.r = r
			}
		}
		for slot := range 2 {
			h := &p.slots[slot]
			b := all[stageAt(part, slot)]
			st := api.Stage{Session: int(b[2])<<8 | int(b[3]), Size: int(b[4])<<8 | int(b[5]), Have: int(b[6])<<8 | int(b[7])}
			if bytes.Equal(b, stageSector(st)) {
				h.st = st
			}
			copy(h.data[:], slices.Concat(all[dataAt(part, slot, 0)], all[dataAt(part, slot, 1)], all[dataAt(part, slot, 2)]))
		}
		w = append(w, p)
	}
	return w
}

func TestWalk(t *testing.T) {
	for seed := range uint32(60) {
		steps := make([]byte, 5*120)
		x := seed
		for i := range steps {
			x = x*1664525 + 1013904223
			steps[i] = byte(x >> 24)
		}
		walk(t, steps)
	}
}

func FuzzStore(f *testing.F) {
	f.Add([]byte{9, 1, 1, 1, 0, 7, 1, 0, 1, 0, 6, 1, 0, 4, 1})
	f.Add([]byte{10, 1, 1, 1, 0, 0, 1, 1, 4, 1, 4, 1, 0, 1, 0, 4, 1, 0, 1, 16})
	f.Add(bytes.Repeat([]byte{9, 2, 3, 1, 4, 7, 2, 0, 4, 1, 0, 2, 9, 1, 2}, 12))
	f.Fuzz(walk)
}

// Seqs up to the greatest one; behind that ErrFull, and nothing is changed.
func TestFull(t *testing.T) {
	x := tabled(2, 7)
	for way := range 2 {
		w := confirmedOf(x, way)
		w[1].slots[1-way] = laidIn(21, imageBytes(coded(x, 1, 301, 4)))
		w[1].r.Seq = lastSeq - 3
		b := put(t, x, w, way)
		b.all(t, "full", []deed{{kind: seal, part: 1, session: 21}, {kind: boot, part: 1}, {kind: boot, part: 1}})
		if r := b.s.Record(1); r.Seq != math.MaxUint32 || r.Left != 5 {
			t.Fatalf("%v", r)
		}
		for range 2 {
			for _, d := range []deed{{kind: boot, part: 1}, {kind: confirm, part: 1}} {
				if o := b.does(t, "full", d); o.e != api.ErrFull {
					t.Errorf("%v: %v", d, o.e)
				}
			}
			b.reopen(t, "full")
		}
	}
}
