package store_test

import (
	"bytes"
	"math"
	"slices"
	"testing"

	"longeron/api"
	"longeron/compat"
	"longeron/disk"
	"longeron/image"
	"longeron/store"
)

// P14.1 and P14.2: ordinary.

// The chapter's example.
func TestExample(t *testing.T) {
	for trial := 1; trial <= 7; trial++ {
		x := tabled(2, trial)
		old, next := coded(x, 1, 4, 20), coded(x, 1, 5, 7)
		d := disk.New(20)
		s, e := store.Make(d, x, []api.Image{coded(x, 0, 1, 1), old})
		if e != api.OK {
			t.Fatal(e)
		}
		for _, d := range sealing(9, next) {
			if _, e := d.to(s); e != api.OK {
				t.Fatalf("%v: %v", d, e)
			}
		}
		for n := range trial + 3 {
			want := next
			if n >= trial {
				want = old
			}
			if got, e := s.Boot(1); e != api.OK || !image.Same(got, want) {
				t.Errorf("Trial %d, boot %d: %v, %v", trial, n, got, e)
			}
		}
	}
}

// What Make lays, sector by sector; where it lays nothing stands what stood there.
func TestMakeLays(t *testing.T) {
	for parts := 2; parts <= 4; parts++ {
		x := tabled(parts, 3)
		images := firsts(x)
		b := made(t, x, images)
		for at, got := range sectorsOf(t, b.d) {
			want := litter(at)
			if part := at / perPart; part < parts {
				bytesOf := imageBytes(images[part])
				blocks := blocksOf(len(bytesOf))
				loaded := append(bytes.Clone(bytesOf), make([]byte, blocks*blockSize-len(bytesOf))...)
				switch at % perPart {
				case 0:
					want = recordSector(api.Record{Part: part, Seq: 1})
				case 1:
					want = make([]byte, sectorSize)
				case 2:
					want = stageSector(api.Stage{Session: 1, Size: len(bytesOf), Have: 1<<blocks - 1})
				case 3, 4, 5:
					copy(want, loaded[min(len(loaded), (at%perPart-3)*sectorSize):])
				}
			}
			if !bytes.Equal(got, want) {
				t.Errorf("%d partitions: sector %d: %x, want %x", parts, at, got, want)
			}
		}
	}
}

// Images of each length, made and loaded.
func TestLengths(t *testing.T) {
	x := tabled(3, 1)
	for long := 1; long <= 96; long++ {
		images := firsts(x)
		part := long % 3
		images[part] = coded(x, part, 1, long)
		b := made(t, x, images)
		b.all(t, "loaded", sealing(long, coded(x, part, 2, 97-long)))
		b.all(t, "boot", []deed{{kind: boot, part: part}, {kind: confirm, part: part}, {kind: boot, part: part}})
	}
}

// orders are some in which so many blocks may come, once or more than once.
func orders(n int) [][]int {
	var rising []int
	for no := range n {
		rising = append(rising, no)
	}
	falling := slices.Clone(rising)
	slices.Reverse(falling)
	turned := slices.Concat(rising[n/2:], rising[:n/2])
	return [][]int{rising, falling, turned, slices.Concat(rising, falling), slices.Concat(falling[:n/2], falling, turned)}
}

// Whole rounds, in each partition of each store: an image is loaded in some order, sealed, booted, and confirmed, and the next one goes into the other slot; now and then one is rolled back instead.
func TestRounds(t *testing.T) {
	for parts := 2; parts <= 4; parts++ {
		for part := range parts {
			b := one(t, parts, 2)
			version := 20
			for i, order := range orders(blocksOf(len(imageBytes(coded(b.x, part, version, 50))))) {
				version += 1 + 100*i
				session := 1 + 13000*i
				slot := 1 - b.told[part].r.Active
				b.all(t, "round", loading(part, session, imageBytes(coded(b.x, part, version, 50)), order))
				b.all(t, "round", []deed{{kind: seal, part: part, session: session}})
				if r := b.s.Record(part); r.Active != slot || r.Confirmed == slot || r.Left != 2 || r.Bad != 0 {
					t.Fatalf("sealed: %v", r)
				}
				b.all(t, "round", []deed{{kind: boot, part: part}})
				if i%3 == 1 { // nobody confirms
					b.all(t, "rolled back", []deed{{kind: boot, part: part}, {kind: boot, part: part}, {kind: boot, part: part}})
					if r := b.s.Record(part); r.Active == slot || r.Confirmed == slot || r.Left != 0 || r.Bad != 1<<slot {
						t.Fatalf("rolled back: %v", r)
					}
					b.all(t, "again", []deed{{kind: seal, part: part, session: session}, {kind: boot, part: part}})
				}
				b.all(t, "round", []deed{{kind: confirm, part: part}})
				if r := b.s.Record(part); r.Active != slot || r.Confirmed != slot || r.Left != 0 || r.Bad != 0 {
					t.Fatalf("confirmed: %v", r)
				}
				b.all(t, "round", []deed{{kind: boot, part: part}, {kind: boot, part: part}, {kind: boot, part: part}})
				if got, e := b.s.Image(part); e != api.OK || got.Version != version {
					t.Fatalf("confirmed: %v, %v", got, e)
				}
			}
		}
	}
}

// A trial is booted as often as each table says, be the store opened anew ahead of each boot or not, and no more; if it is confirmed behind any of these, it stays.
func TestTrials(t *testing.T) {
	for trial := 1; trial <= 7; trial++ {
		for way := range 2 {
			for confirmedAt := range trial + 1 {
				b := one(t, 2, trial)
				b.all(t, "sealed", sealing(3, coded(b.x, 1, 30, 5)))
				for n := range trial + 3 {
					if way == 1 {
						b.reopen(t, "trial")
					}
					if n == confirmedAt {
						b.all(t, "trial", []deed{{kind: confirm, part: 1}})
					}
					o := b.does(t, "trial", deed{kind: boot, part: 1})
					if o.e != api.OK || o.runs.Version != 30 {
						t.Fatalf("Trial %d, confirmed ahead of boot %d: boot %d: %v, %v", trial, confirmedAt, n, o.runs, o.e)
					}
				}

				b = one(t, 2, trial)
				b.all(t, "sealed", sealing(3, coded(b.x, 1, 30, 5)))
				booted := 0
				for range trial + 3 {
					if way == 1 {
						b.reopen(t, "trial")
					}
					if o := b.does(t, "trial", deed{kind: boot, part: 1}); o.runs.Version == 30 {
						booted++
					}
				}
				if want := (api.Record{Part: 1, Seq: 3 + trial, Bad: 2}); booted != trial || b.s.Record(1) != want {
					t.Fatalf("Trial %d: booted %d times, %v", trial, booted, b.s.Record(1))
				}
			}
		}
	}
}

// What a session has left stays when another one begins elsewhere, or anew.
func TestSessions(t *testing.T) {
	b := one(t, 3, 2)
	i := imageBytes(coded(b.x, 1, 40, 30))
	l := loading(1, 7, i, nil)
	b.all(t, "first", l[:3])
	b.all(t, "other", loading(2, 7, imageBytes(coded(b.x, 2, 40, 3)), nil))
	b.all(t, "first", l[3:])
	b.all(t, "begun anew", loading(1, 7, i, []int{3, 1})) // the session's own blocks are gone
	if e := b.s.Seal(1, 7); e != api.ErrMissing {
		t.Errorf("Seal: %v", e)
	}
	b.all(t, "anew", loading(1, 65535, i, nil))
	b.all(t, "sealed", []deed{{kind: seal, part: 2, session: 7}, {kind: seal, part: 1, session: 65535}})
}

// P14.1: the edges.

// misfits are images for a partition that Check refuses, each in its own way, against version 0.
func misfits(x api.Table, part int) []api.Image {
	var l []api.Image
	add := func(change func(i *api.Image)) {
		i := coded(x, part, 500, 12)
		change(&i)
		l = append(l, i)
	}
	add(func(i *api.Image) { i.Part = (part + 1) % len(x.Parts) })
	add(func(i *api.Image) { i.Part = -1 })
	add(func(i *api.Image) { i.Hard++ })
	add(func(i *api.Image) { i.Hard = 65536 })
	add(func(i *api.Image) { i.Mem++ })
	add(func(i *api.Image) { i.Mem = 0 })
	add(func(i *api.Image) { i.Fuel++ })
	add(func(i *api.Image) { i.Sends |= 8 })
	add(func(i *api.Image) { i.Receives |= 8 })
	add(func(i *api.Image) { i.Sends, i.Receives = i.Sends|7, i.Receives|7 })
	add(func(i *api.Image) { i.Version = 0 })
	add(func(i *api.Image) { i.Version = 65536 })
	add(func(i *api.Image) { i.Code = nil })
	add(func(i *api.Image) { i.Code = make([]byte, 97) })
	return l
}

// refuses says whether Make answers an error, and leaves the disk as it was.
func refuses(t *testing.T, what string, d *disk.Disk, x api.Table, images []api.Image, want api.Errno) {
	t.Helper()
	var ahead [][]byte
	if d != nil && !d.Down() {
		ahead = sectorsOf(t, d)
	}
	if s, e := store.Make(d, x, images); s != nil || e != want {
		t.Errorf("%s: Make: %v, want %v", what, e, want)
	}
	if d != nil && d.Waits() != 0 {
		t.Errorf("%s: %d writes wait", what, d.Waits())
	}
	if ahead != nil && !slices.EqualFunc(ahead, sectorsOf(t, d), bytes.Equal) {
		t.Errorf("%s: Make touches the disk", what)
	}
}

// Each of Make's errors with each other, in the chapter's order. A disk's that isn't down is one with a fuse that is at its end.
func TestMakeErrors(t *testing.T) {
	for parts := 2; parts <= 4; parts++ {
		for ways := range 1 << 8 {
			has := func(n int) bool { return ways>>n&1 == 1 }
			x := tabled(parts, 2)
			images := firsts(x)
			want, sectors := api.OK, perPart*parts
			set := func(e api.Errno) {
				if want == api.OK {
					want = e
				}
			}
			if has(2) {
				sectors--
			}
			d := blank(t, sectors)
			if has(0) {
				set(api.ErrNil)
				d = nil
			}
			if has(1) {
				set(api.ErrTable)
				x.Trial = 0
			}
			if has(2) || has(3) {
				set(api.ErrRange)
			}
			if has(4) {
				set(api.ErrSize)
				images[0].Fuel++
			}
			switch {
			case has(3) && has(7):
				images = append(images, coded(x, 0, 1, 1))
			case has(3):
				images = images[:parts-1]
			}
			switch {
			case has(5) && d != nil:
				take(t, d)
			case has(6) && d != nil:
				d.Fuse(0)
			}
			if has(5) || has(6) {
				set(api.ErrDown)
			}
			if has(6) && !has(5) && want != api.ErrDown && want != api.OK {
				refuses(t, "with a fuse", d, x, images, want)
				if d != nil && d.Down() {
					t.Errorf("ways %b: a Make that is refused burns the fuse", ways)
				}
				continue
			}
			if want == api.OK {
				if s, e := store.Make(d, x, images); s == nil || e != api.OK {
					t.Errorf("Make: %v", e)
				}
				continue
			}
			if d != nil && has(6) {
				if s, e := store.Make(d, x, images); s != nil || e != want {
					t.Errorf("ways %b: Make: %v, want %v", ways, e, want)
				}
				continue
			}
			refuses(t, "ways", d, x, images, want)
		}
	}
}

// So many images as there are partitions, and no more or fewer; each is looked at, in its place, ahead of any that is laid; of several that don't fit the first one's error is told.
func TestMakeImages(t *testing.T) {
	for parts := 2; parts <= 4; parts++ {
		x := tabled(parts, 2)
		right := firsts(x)
		more := append(slices.Clone(right), coded(x, parts-1, 99, 5))
		for n := range len(more) + 1 {
			if n != parts {
				refuses(t, "so many", blank(t, sectorsFor(x)), x, more[:n], api.ErrRange)
			}
		}
		refuses(t, "none", blank(t, sectorsFor(x)), x, nil, api.ErrRange)
		for part := range parts {
			for _, wrong := range misfits(x, part) {
				want := compat.Check(x, part, wrong, 0)
				images := slices.Clone(right)
				images[part] = wrong
				refuses(t, "one", blank(t, sectorsFor(x)), x, images, want)
				for other := part + 1; other < parts; other++ {
					for _, wrong := range misfits(x, other) {
						images[other] = wrong
						refuses(t, "two", blank(t, sectorsFor(x)), x, images, want)
					}
					images[other] = right[other]
				}
			}
		}
		turned := append(slices.Clone(right[1:]), right[0])
		refuses(t, "turned", blank(t, sectorsFor(x)), x, turned, api.ErrPart)
	}
}

// A disk with just enough sectors, one fewer, and more, for Make and Open.
func TestSectors(t *testing.T) {
	for parts := 2; parts <= 4; parts++ {
		x := tabled(parts, 2)
		for _, sectors := range []int{1, perPart * (parts - 1), perPart*parts - 1} {
			refuses(t, "too few", blank(t, sectors), x, firsts(x), api.ErrRange)
			if s, e := store.Open(blank(t, sectors), x); s != nil || e != api.ErrRange {
				t.Errorf("%d sectors: Open: %v", sectors, e)
			}
		}
		for _, sectors := range []int{perPart * parts, perPart*parts + 1, perPart * 4, 128} {
			b := &bench{d: blank(t, sectors), x: x, told: madeOf(firsts(x))}
			s, e := store.Make(b.d, x, firsts(x))
			if e != api.OK {
				t.Fatalf("%d sectors: Make: %v", sectors, e)
			}
			b.s = s
			b.same(t, "just enough")
			b.all(t, "just enough", sealing(1, coded(x, parts-1, 50, 96)))
		}
	}
}

// A table that isn't right, in some of the ways of layer 5.
func TestTables(t *testing.T) {
	for _, change := range []func(x *api.Table){
		func(x *api.Table) { *x = api.Table{} },
		func(x *api.Table) { x.Frame = 0 },
		func(x *api.Table) { x.Trial = 0 },
		func(x *api.Table) { x.Trial = 8 },
		func(x *api.Table) { x.Parts = x.Parts[:1] },
		func(x *api.Table) { x.Parts = append(x.Parts, x.Parts...) },
		func(x *api.Table) { x.Parts[1].Mem = 17 },
		func(x *api.Table) { x.Windows = nil },
		func(x *api.Table) { x.Windows[1].Part = 3 },
		func(x *api.Table) { x.Channels[0].To = 1 },
	} {
		x := tabled(3, 2)
		change(&x)
		refuses(t, "wrong table", blank(t, 40), x, firsts(tabled(3, 2)), api.ErrTable)
		refuses(t, "wrong table, no disk", nil, x, nil, api.ErrNil)
		b := one(t, 3, 2)
		if s, e := store.Open(b.d, x); s != nil || e != api.ErrTable {
			t.Errorf("Open: %v", e)
		}
		if s, e := store.Open(nil, x); s != nil || e != api.ErrNil {
			t.Errorf("Open: %v", e)
		}
		if s, e := store.Open(disk.New(1), x); s != nil || e != api.ErrTable {
			t.Errorf("Open: %v", e)
		}
	}
}

// opens says whether Open answers that, and writes nothing.
func opens(t *testing.T, what string, d *disk.Disk, x api.Table, want api.Errno) {
	t.Helper()
	down := d.Down()
	d.Fuse(0)
	s, e := store.Open(d, x)
	if e != want || (s == nil) != (e != api.OK) || d.Waits() != 0 {
		t.Errorf("%s: Open: %v, want %v", what, e, want)
	}
	if d.Down() != down {
		t.Errorf("%s: Open writes", what)
	}
	d.Fuse(noFuse)
}

// Open's errors, each with each other: no record in one partition, no image in another one, a disk that is down. The logs and slots of all partitions go ahead of what they hold.
func TestOpenErrors(t *testing.T) {
	for parts := 2; parts <= 4; parts++ {
		x := tabled(parts, 2)
		opens(t, "blank", disk.New(sectorsFor(x)), x, api.ErrNone)
		opens(t, "litter", blank(t, sectorsFor(x)), x, api.ErrNone)
		for noRecord := -1; noRecord < parts; noRecord++ {
			for noImage := -1; noImage < parts; noImage++ {
				for down := range 2 {
					b := one(t, parts, 2)
					want := api.OK
					if noImage >= 0 {
						want = api.ErrForm
						lay(t, b.d, dataAt(noImage, 0, 0), litter(1))
					}
					if noRecord >= 0 {
						want = api.ErrNone
						lay(t, b.d, copyAt(noRecord, 0), litter(2))
					}
					if down == 1 {
						want = api.ErrDown
						take(t, b.d)
					}
					opens(t, "each", b.d, x, want)
				}
			}
		}
		b := one(t, parts, 2)
		take(t, b.d)
		short := tabled(4, 2)
		if parts < 4 {
			opens(t, "too few sectors, and down", b.d, short, api.ErrRange)
		}
		down := disk.New(sectorsFor(x))
		take(t, down)
		opens(t, "no record, and down", down, x, api.ErrDown)
	}
}

// A disk that was made for more partitions opens for fewer; one for fewer doesn't for more.
func TestOtherTables(t *testing.T) {
	x := tabled(4, 2)
	x.Channels = nil
	images := firsts(x)
	d := disk.New(40)
	if _, e := store.Make(d, x, images); e != api.OK {
		t.Fatal(e)
	}
	few := x
	few.Parts, few.Windows = x.Parts[:2], x.Windows[:2]
	opens(t, "fewer", d, few, api.OK)
	if _, e := store.Make(d, few, images[:2]); e != api.OK {
		t.Fatal(e)
	}
	opens(t, "still there", d, x, api.OK)
	d = disk.New(40)
	store.Make(d, few, images[:2])
	opens(t, "more", d, x, api.ErrNone)
	// another Trial counts from the next Seal on
	x.Trial = 7
	opens(t, "other trial", d, few, api.OK)
	// what ran in a partition no longer fits it
	for _, change := range []func(p *api.Part){func(p *api.Part) { p.Hard++ }, func(p *api.Part) { p.Mem-- }, func(p *api.Part) { p.Fuel-- }} {
		other := few
		other.Parts = slices.Clone(few.Parts)
		change(&other.Parts[1])
		opens(t, "doesn't fit", d, other, api.ErrForm)
	}
}

// stagings are what a partition's slots may hold, and what Seal answers of them when they are the spare slot, and version 300 runs.
func stagings(x api.Table, part int) []held {
	whole := func(i api.Image) held { return laidIn(21, imageBytes(i)) }
	l := []held{
		{},
		{st: api.Stage{Session: 21, Size: 60}},
		whole(coded(x, part, 301, 60)),
		whole(coded(x, part, 65535, 96)),
		whole(coded(x, part, 300, 60)),
		whole(coded(x, part, 1, 2)),
		laidIn(21, []byte{1}),
		laidIn(21, imageBytes(coded(x, part, 400, 1))[:35]),
		laidIn(21, imageBytes(coded(x, part, 400, 1))[:49]),
		laidIn(21, append(imageBytes(coded(x, part, 400, 1)), 0)),
		laidIn(21, make([]byte, 36)),
		laidIn(21, make([]byte, greatest)),
	}
	for _, i := range misfits(x, part) {
		if b := imageBytes(i); len(b) <= greatest {
			l = append(l, laidIn(21, b))
		}
	}
	missing := whole(coded(x, part, 302, 60))
	for no := range blocksOf(missing.st.Size) {
		one := missing
		one.st.Have -= 1 << no
		l = append(l, one)
	}
	for _, at := range []int{0, 2, 4, 12, 13, 40, 72, 73, 100, 104, 105, 108} {
		turned := missing
		turned.data[at] ^= 4
		l = append(l, turned)
	}
	return l
}

// confirmedOf is a world in which each partition runs version 300, in that slot, and has nothing else.
func confirmedOf(x api.Table, slot int) world {
	var w world
	for part := range x.Parts {
		p := owned{r: api.Record{Part: part, Seq: 40 + part, Active: slot, Confirmed: slot}}
		p.slots[slot] = laidIn(600+part, imageBytes(coded(x, part, 300, 33+part)))
		w = append(w, p)
	}
	return w
}

// Open, with each content of what runs, of the confirmed slot, and of the spare one.
func TestOpenForm(t *testing.T) {
	x := tabled(3, 2)
	for part := range x.Parts {
		for _, h := range stagings(x, part) {
			i, e := h.tells(false)
			fits := e == api.OK && compat.Fits(x, part, i)
			for slot := range 2 {
				for trial := range 2 {
					for in := range 2 { // 0: it is what runs; 1: the slot that doesn't
						w := confirmedOf(x, slot)
						if trial == 1 {
							w[part].r.Confirmed = 1 - slot
							w[part].slots[1-slot] = laidIn(5, imageBytes(coded(x, part, 299, 8)))
						}
						which := slot
						if in == 1 {
							which = 1 - slot
						}
						w[part].slots[which] = h
						want := api.ErrForm
						if fits || trial == 0 && in == 1 {
							want = api.OK
						}
						d := diskOfWorld(t, x, w)
						opens(t, "content", d, x, want)
					}
				}
			}
		}
	}
}

// diskOfWorld is a disk that holds a world.
func diskOfWorld(t *testing.T, x api.Table, w world) *disk.Disk {
	t.Helper()
	sound := slices.Clone(w)
	for part := range sound { // put opens it, and so it has to be one that opens; what isn't is laid behind that
		sound[part] = confirmedOf(x, 0)[part]
	}
	b := put(t, x, sound, 0)
	for part, p := range w {
		lay(t, b.d, copyAt(part, 0), recordSector(p.r))
		lay(t, b.d, copyAt(part, 1), litter(9))
		for slot, h := range p.slots {
			stage := litter(17)
			if h.st != (api.Stage{}) {
				stage = stageSector(h.st)
			}
			lay(t, b.d, stageAt(part, slot), stage)
			room := append(bytes.Clone(h.data[:]), litter(3)...)
			for i := range 3 {
				lay(t, b.d, dataAt(part, slot, i), room[i*sectorSize:(i+1)*sectorSize])
			}
		}
	}
	return b.d
}

// Each byte of what runs, of the confirmed slot and of the spare one turned: it opens just if that is neither the image's nor the stage's.
func TestTurned(t *testing.T) {
	x := tabled(2, 2)
	for trial := range 2 {
		w := confirmedOf(x, 1)
		w[1].slots[0] = laidIn(5, imageBytes(coded(x, 1, 299, 8)))
		if trial == 1 {
			w[1].r.Confirmed = 0
		}
		b := put(t, x, w, 1)
		for slot := range 2 {
			size := w[1].slots[slot].st.Size
			for i := range 4 {
				at := stageAt(1, slot) + i
				was, _ := b.d.Read(at)
				for j := range sectorSize {
					turned := bytes.Clone(was)
					turned[j] ^= 1 << (j % 8)
					lay(t, b.d, at, turned)
					want := api.OK
					if (trial == 1 || slot == 1) && (i == 0 || (i-1)*sectorSize+j < size) {
						want = api.ErrForm
					}
					opens(t, "turned", b.d, x, want)
				}
				lay(t, b.d, at, was)
			}
		}
		b.same(t, "turned back")
	}
}

// What is turned behind the back of an open store is told as an error, and changes nothing.
func TestTurnedBehind(t *testing.T) {
	x := tabled(2, 3)
	for trial := range 2 {
		w := confirmedOf(x, 0)
		w[1].slots[0] = laidIn(6, imageBytes(coded(x, 1, 300, 8)))
		w[1].slots[1] = laidIn(5, imageBytes(coded(x, 1, 310, 8)))
		if trial == 1 {
			w[1].r.Active, w[1].r.Left = 1, 2
		}
		none := imageBytes(coded(x, 1, 0, 8))
		for want, sector := range map[api.Errno][]byte{api.ErrDigest: litter(8), api.ErrRange: append(none, make([]byte, sectorSize-len(none))...)} {
			b := put(t, x, w, 0)
			lay(t, b.d, dataAt(1, trial, 0), sector)
			if i, e := b.s.Image(1); e != want || !image.Same(i, api.Image{}) {
				t.Errorf("Image: %v, %v, want %v", i, e, want)
			}
			if i, e := b.s.Boot(1); e != want || !image.Same(i, api.Image{}) || b.s.Record(1) != w[1].r {
				t.Errorf("Boot: %v, %v, want %v; %v", i, e, want, b.s.Record(1))
			}
			if trial == 0 {
				if e := b.s.Seal(1, 5); e != want || b.s.Record(1) != w[1].r {
					t.Errorf("Seal: %v, want %v; %v", e, want, b.s.Record(1))
				}
			}
		}
	}
}

// P14.2: each deed in each state.

// states are worlds in which partition 1 has each thing that there may be.
func states(x api.Table) []world {
	var l []world
	with := func(slot int, change func(p *owned)) {
		w := confirmedOf(x, slot)
		w[0].slots[1-slot] = laidIn(21, imageBytes(coded(x, 0, 301, 3)))
		change(&w[1])
		l = append(l, w)
	}
	for slot := range 2 {
		for _, h := range stagings(x, 1) {
			with(slot, func(p *owned) { p.slots[1-slot] = h })
		}
		next := laidIn(21, imageBytes(coded(x, 1, 307, 5)))
		for left := range 8 {
			with(slot, func(p *owned) {
				p.slots[1-slot] = next
				p.r.Active, p.r.Left = 1-slot, left
			})
		}
		for _, seq := range []int{1, 254, 255, 256, 65535, lastSeq - 1, lastSeq} {
			for left := range 2 {
				with(slot, func(p *owned) {
					p.slots[1-slot] = next
					p.r.Seq, p.r.Active, p.r.Left = seq, 1-slot, left
				})
			}
			with(slot, func(p *owned) {
				p.slots[1-slot] = next
				p.r.Seq = seq
			})
		}
		with(slot, func(p *owned) {
			p.slots[1-slot] = next
			p.r.Bad = 2 - slot // the spare slot's bit
		})
	}
	return l
}

// deeds are calls on partition 1, and some on others.
func deeds() []deed {
	l := []deed{
		{kind: boot, part: 0}, {kind: boot, part: 1}, {kind: confirm, part: 0}, {kind: confirm, part: 1},
		{begin, 0, 8, 9, nil}, {load, 0, 21, 0, make([]byte, blockSize)}, {kind: seal, part: 0, session: 21}, {kind: drop, part: 0, session: 21},
	}
	for _, session := range []int{math.MinInt, -1, 0, 1, 20, 21, 22, 65535, 65536, 65536 + 21, math.MaxInt} {
		l = append(l, deed{kind: drop, part: 1, session: session}, deed{kind: seal, part: 1, session: session}, deed{begin, 1, session, 50, nil})
		for _, no := range []int{-1, 2, 9} {
			l = append(l, deed{load, 1, session, no, bytes.Repeat([]byte{7}, blockSize)})
		}
	}
	for _, n := range []int{math.MinInt, -1, 0, 1, 2, 3, 4, 6, 7, 9, 10, 15, 16, 17, 159, 160, 161, 256 + 50, math.MaxInt} {
		l = append(l, deed{begin, 1, 21, n, nil}, deed{load, 1, 21, n, bytes.Repeat([]byte{0xe1}, blockSize)})
	}
	for _, long := range []int{0, 1, 15, 17, 32, 64} {
		l = append(l, deed{load, 1, 21, 1, make([]byte, long)}, deed{load, 1, 21, 99, make([]byte, long)}, deed{load, 1, 22, 1, make([]byte, long)})
	}
	return l
}

func TestEachDeedInEachState(t *testing.T) {
	x := tabled(2, 3)
	for i, w := range states(x) {
		b := put(t, x, w, i)
		sectors := sectorsOf(t, b.d)
		for _, d := range deeds() {
			if o := b.does(t, "each", d); o.writes > 0 {
				b = &bench{d: diskOf(t, sectors), x: x, told: w}
				b.reopen(t, "each")
			}
		}
	}
}

// The same with the disk down: what is refused without it is refused likewise; what reads, or writes, tells ErrDown; and nothing is changed, neither then nor when the power is back.
func TestEachDeedWhileDown(t *testing.T) {
	x := tabled(2, 3)
	for i, w := range states(x) {
		b := put(t, x, w, i)
		take(t, b.d)
		for _, d := range deeds() {
			o := w.makes(x, d, true)
			runs, e := d.to(b.s)
			if e != o.e || !image.Same(runs, api.Image{}) || b.d.Waits() != 0 {
				t.Fatalf("down: %v: %v, %v; want %v", d, runs, e, o.e)
			}
			if o.e != api.OK && e != api.OK {
				b.tells(t, "down", b.s, w)
			}
		}
		b.d.Power(math.MaxUint64)
		b.same(t, "power is back")
		b.does(t, "power is back", deeds()[i%len(deeds())])
	}
}

// Each call with each partition that there isn't: ErrRange, whatever else is wrong, the disk up or down.
func TestPartitions(t *testing.T) {
	for parts := 2; parts <= 4; parts++ {
		for down := range 2 {
			b := one(t, parts, 2)
			b.all(t, "loaded", loading(parts-1, 21, imageBytes(coded(b.x, parts-1, 50, 5)), nil))
			if down == 1 {
				take(t, b.d)
			}
			for _, part := range append([]int{parts, parts + 1}, far...) {
				if part >= 0 && part < parts {
					continue
				}
				for _, d := range deeds() {
					d.part = part
					if runs, e := d.to(b.s); e != api.ErrRange || !image.Same(runs, api.Image{}) {
						t.Fatalf("%v: %v, %v", d, runs, e)
					}
				}
				b.tellsNothing(t, "far", b.s, part, api.ErrRange)
			}
			b.tells(t, "far", b.s, b.told)
			if down == 0 {
				b.same(t, "far")
			}
		}
	}
}

// The least and the greatest partition of each store, round after round, leave all others as they were (which does says), and in turn with them.
func TestPartsApart(t *testing.T) {
	b := one(t, 4, 2)
	var turns [4][]deed
	for part := range 4 {
		turns[part] = append(sealing(70+part, coded(b.x, part, 60, 10*part+1)), deed{kind: boot, part: part}, deed{kind: confirm, part: part})
		turns[part] = append(turns[part], sealing(80+part, coded(b.x, part, 61, 3))...)
		turns[part] = append(turns[part], deed{kind: boot, part: part}, deed{kind: boot, part: part}, deed{kind: boot, part: part})
	}
	for i := range 60 {
		part := (i*i + i/3) % 4
		if len(turns[part]) > 0 {
			b.all(t, "turn", turns[part][:1])
			turns[part] = turns[part][1:]
		}
	}
	for part := range 4 {
		b.all(t, "rest", turns[part])
	}
	for part := range 4 {
		if i, e := b.s.Image(part); e != api.OK || i.Version != 60 || b.s.Record(part).Bad != 1 {
			t.Errorf("partition %d: %v, %v; %v", part, i, e, b.s.Record(part))
		}
	}
}

// A Make on a disk that has a store begins anew; what stands in the second slots stays there, and isn't what runs.
func TestMadeAnew(t *testing.T) {
	b := one(t, 2, 2)
	b.all(t, "first", sealing(5, coded(b.x, 0, 70, 9)))
	b.all(t, "first", sealing(6, coded(b.x, 1, 71, 9)))
	b.all(t, "first", []deed{{kind: boot, part: 1}, {kind: confirm, part: 1}})
	images := []api.Image{coded(b.x, 0, 1, 96), coded(b.x, 1, 2, 1)}
	s, e := store.Make(b.d, b.x, images)
	if e != api.OK {
		t.Fatal(e)
	}
	again := madeOf(images)
	for part := range again {
		again[part].slots[1] = b.told[part].slots[1]
	}
	b.s, b.told = s, again
	b.same(t, "made anew")
	b.all(t, "made anew", []deed{{kind: seal, part: 0, session: 5}, {kind: drop, part: 1, session: 6}})
}

// R4: memory.

func TestMemory(t *testing.T) {
	x := tabled(3, 2)
	right := tabled(3, 2)
	images := firsts(x)
	for n := range images {
		images[n].Code = append(images[n].Code, 0xaa)[:len(images[n].Code)]
	}
	d := blank(t, sectorsFor(x))
	s, e := store.Make(d, x, images)
	if e != api.OK {
		t.Fatal(e)
	}
	for n, i := range images {
		if !image.Same(i, firsts(right)[n]) || i.Code[:len(i.Code)+1][len(i.Code)] != 0xaa {
			t.Errorf("Make changes image %d", n)
		}
		clear(i.Code)
		images[n] = api.Image{}
	}
	if !slices.Equal(x.Parts, right.Parts) || !slices.Equal(x.Windows, right.Windows) || !slices.Equal(x.Channels, right.Channels) {
		t.Error("Make changes the table")
	}
	b := &bench{d: d, x: right, s: s, told: madeOf(firsts(right))}
	b.overwritten(t, x)

	x = tabled(3, 2)
	s, e = store.Open(d, x)
	if e != api.OK || !slices.Equal(x.Parts, right.Parts) || !slices.Equal(x.Windows, right.Windows) || !slices.Equal(x.Channels, right.Channels) {
		t.Errorf("Open: %v", e)
	}
	b.s = s
	b.overwritten(t, x)
}

// overwritten writes over the table that a store was handed, and over what it answers; it goes on as if nothing were.
func (b *bench) overwritten(t *testing.T, x api.Table) {
	t.Helper()
	clear(x.Parts)
	clear(x.Windows)
	clear(x.Channels)
	b.same(t, "the table is written over")
	for part := range b.told {
		version := b.told[part].r.Seq + 100
		b.all(t, "behind that", sealing(4, coded(b.x, part, version, 30)))
		for range 2 {
			for _, ask := range []func(int) (api.Image, api.Errno){b.s.Image, b.s.Boot} {
				got, e := ask(part)
				if e != api.OK {
					t.Fatal(e)
				}
				want := coded(b.x, part, version, 30)
				if !image.Same(got, want) {
					t.Fatalf("%v, want %v", got, want)
				}
				room := got.Code[:cap(got.Code)]
				for n := range room {
					room[n] = 0xff
				}
				if again, e := b.s.Image(part); e != api.OK || !image.Same(again, want) {
					t.Fatalf("the answer is written over: %v, %v", again, e)
				}
			}
		}
		b.told[part].r.Seq += 2
		b.told[part].r.Left = 0
		b.same(t, "booted")
		b.all(t, "confirmed", []deed{{kind: confirm, part: part}})
	}
}

// Stores of two disks.
func TestDisksApart(t *testing.T) {
	a, b := one(t, 2, 2), one(t, 2, 2)
	for i, d := range append(sealing(9, coded(a.x, 1, 90, 40)), deed{kind: boot, part: 1}, deed{kind: confirm, part: 1}) {
		a.does(t, "a", d)
		b.same(t, "b")
		if i%2 == 1 {
			b.does(t, "b", d)
			a.same(t, "a")
		}
	}
}

// R5: the same calls on like disks answer the same, and leave the same.
func TestSameAgain(t *testing.T) {
	a, b := one(t, 3, 2), one(t, 3, 2)
	for round := range 3 {
		for i, d := range slices.Concat(sealing(9, coded(a.x, 1, 90+round, 40)), deeds(), []deed{{kind: boot, part: 1}, {kind: confirm, part: 1}}) {
			if i%5 == round {
				b.reopen(t, "again")
			}
			a.does(t, "a", d)
			b.does(t, "b", d)
			if !slices.EqualFunc(sectorsOf(t, a.d), sectorsOf(t, b.d), bytes.Equal) {
				t.Fatalf("%v leaves other sectors", d)
			}
		}
	}
}

func TestNil(t *testing.T) {
	var b bench
	for _, part := range append([]int{0, 1, 2, 3}, far...) {
		for _, d := range deeds() {
			d.part = part
			if runs, e := d.to(nil); e != api.ErrNil || !image.Same(runs, api.Image{}) {
				t.Errorf("%v: %v, %v", d, runs, e)
			}
		}
		b.tellsNothing(t, "nil", nil, part, api.ErrNil)
	}
	if s, e := store.Make(nil, api.Table{}, nil); s != nil || e != api.ErrNil {
		t.Errorf("Make: %v", e)
	}
	if s, e := store.Open(nil, tabled(2, 1)); s != nil || e != api.ErrNil {
		t.Errorf("Open: %v", e)
	}
}
