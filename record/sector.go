package record

import (
	"bytes"

	"longeron/api"
	"longeron/crc"
	"longeron/num"
)

const sumSize = 4 // bytes

// field is a number of a sector: its address in what the sector tells, and how many bytes it has there.
type field struct {
	at    *int
	width int
}

// ofRecord are r's fields, in the order in which they stand in its sector.
func ofRecord(r *api.Record) [6]field {
	return [...]field{{&r.Part, 1}, {&r.Seq, 4}, {&r.Active, 1}, {&r.Confirmed, 1}, {&r.Left, 1}, {&r.Bad, 1}}
}

// ofStage are s's fields, likewise.
func ofStage(s *api.Stage) [3]field {
	return [...]field{{&s.Session, 2}, {&s.Size, 2}, {&s.Have, 2}}
}

// sector answers the mark, the fields and their sum, and zeros to the sector's end.
func sector(mark string, fields []field) []byte {
	b := []byte(mark)
	for _, f := range fields {
		b = num.Put(b, *f.at, f.width)
	}
	b = append(b, sumOf(b)...)
	out := make([]byte, api.Sector)
	copy(out, b)
	return out
}

// lay lays what the sector tells into the fields, right or not. Nothing is laid of a sector that is refused.
func lay(b []byte, mark string, fields []field) api.Errno {
	if len(b) != api.Sector {
		return api.ErrSize
	}
	end := len(mark)
	for _, f := range fields {
		end += f.width
	}
	told, sum, behind := b[:end], b[end:end+sumSize], b[end+sumSize:]
	if !bytes.HasPrefix(told, []byte(mark)) || !zeros(behind) {
		return api.ErrForm
	}
	if !bytes.Equal(sum, sumOf(told)) {
		return api.ErrDigest
	}
	r := num.Read(told[len(mark):])
	for _, f := range fields {
		*f.at = r.Num(f.width)
	}
	return r.End()
}

// sumOf answers the sum of b as it stands behind it.
func sumOf(b []byte) []byte {
	return num.Put(nil, int(crc.Make().Sum(b)), sumSize)
}

func zeros(b []byte) bool {
	for _, x := range b {
		if x != 0 {
			return false
		}
	}
	return true
}
