package store

import (
	"slices"

	"longeron/api"
	"longeron/commit"
	"longeron/compat"
	"longeron/disk"
	"longeron/image"
	"longeron/place"
	"longeron/record"
	"longeron/stage"
)

const (
	slotCount    = 2
	firstSlot    = 0
	firstSession = 1
)

// partition is one's log and slots.
type partition struct {
	*commit.Log
	slots
	disk *disk.Disk
}

// slots are a partition's two.
type slots [slotCount]*stage.Slot

// open answers a partition with what the disk holds of it.
func open(d *disk.Disk, part int) (partition, api.Errno) {
	log, e := commit.Open(d, part)
	if e != api.OK {
		return partition{}, e
	}
	p := partition{Log: log, disk: d}
	for slot := range slotCount {
		if p.slots[slot], e = stage.Open(d, part, slot); e != api.OK {
			return partition{}, e
		}
	}
	return p, api.OK
}

// lay loads an image into a partition's first slot, and lets it be what runs, and is confirmed.
func lay(d *disk.Disk, part int, i api.Image) api.Errno {
	b, e := image.Put(i)
	if e != api.OK {
		return e
	}
	s, e := stage.Open(d, part, firstSlot)
	if e != api.OK {
		return e
	}
	if e := load(s, b); e != api.OK {
		return e
	}
	_, e = commit.Format(d, part)
	return e
}

// load loads all bytes into a slot, block by block.
func load(s *stage.Slot, b []byte) api.Errno {
	if e := s.Begin(firstSession, len(b)); e != api.OK {
		return e
	}
	no := 0
	for piece := range slices.Chunk(b, api.Block) {
		var block [api.Block]byte
		copy(block[:], piece)
		if e := s.Put(firstSession, no, block[:]); e != api.OK {
			return e
		}
		no++
	}
	return api.OK
}

// tries tells whether a trial goes on.
func (p partition) tries() bool {
	r := p.Latest()
	return r.Active != r.Confirmed
}

// loaded answers the slot that isn't confirmed: the spare one, or the trial's.
func (p partition) loaded() *stage.Slot { return p.slots[other(p.Latest().Confirmed)] }

// holds tells whether a slot holds an image that fits.
func (p partition) holds(t api.Table, slot int) bool {
	i, e := p.image(slot)
	return e == api.OK && compat.Fits(t, p.Latest().Part, i)
}

// image answers the image in a slot.
func (s slots) image(slot int) (api.Image, api.Errno) {
	b, e := s[slot].Bytes()
	if e != api.OK {
		return api.Image{}, e
	}
	return image.Get(b)
}

// holdRecord makes the disk hold the record that the log tells, and no later one, ahead of what is written into the spare slot. The disk may have kept a record with which a Seal ended that told ErrDown: by that one the spare slot is what runs.
func (p partition) holdRecord() api.Errno {
	told := p.Latest()
	if held, _ := commit.Open(p.disk, told.Part); held.Latest() == told { // beside an error it is nil, and tells none
		return api.OK
	}
	b, e := record.Put(told)
	if e != api.OK {
		return e
	}
	first, _ := place.Commit(told.Part, 0)
	second, _ := place.Commit(told.Part, 1)
	return p.write(b, first, second)
}

// holdStage makes the disk hold the stage that the slot tells, ahead of a record by which that slot is what runs. The disk may have kept another one, with which a Begin or a Drop ended that told ErrDown.
func (p partition) holdStage(slot int) api.Errno {
	part := p.Latest().Part
	told, _ := p.slots[slot].Stage()
	opened, _ := stage.Open(p.disk, part, slot)
	if held, _ := opened.Stage(); held == told { // beside an error that is nil, and tells none
		return api.OK
	}
	b, e := record.PutStage(told)
	if e != api.OK {
		return e
	}
	at, _ := place.Stage(part, slot)
	return p.write(b, at)
}

// write lays the same bytes into some sectors.
func (p partition) write(b []byte, sectors ...int) api.Errno {
	for _, at := range sectors {
		if e := p.disk.Write(at, b); e != api.OK {
			return e
		}
	}
	return p.disk.Flush()
}

func other(slot int) int { return slotCount - 1 - slot }
