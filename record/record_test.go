package record_test

import (
	"bytes"
	"hash/crc32"
	"math"
	"slices"
	"testing"

	"longeron/api"
	"longeron/record"
)

// toldRecord and toldStage are how many bytes stand ahead of the sum.
const (
	toldRecord = 11
	toldStage  = 8
	sectorSize = 64
)

func within(least, n, most int) bool { return n >= least && n <= most }

// isRight tells whether a record is right, as the chapter's words have it.
func isRight(r api.Record) bool {
	if !within(0, r.Part, 3) || !within(1, r.Seq, 4294967295) || !within(0, r.Left, 7) || !within(0, r.Bad, 3) {
		return false
	}
	if r.Active == r.Confirmed && r.Left != 0 {
		return false
	}
	switch [2]int{r.Active, r.Confirmed} {
	case [2]int{0, 0}:
		return r.Bad == 0 || r.Bad == 2
	case [2]int{1, 1}:
		return r.Bad == 0 || r.Bad == 1
	case [2]int{0, 1}, [2]int{1, 0}:
		return r.Bad == 0
	}
	return false
}

// blocksOf counts the blocks one by one.
func blocksOf(size int) int {
	n := 0
	for ; size > 0; size -= 16 {
		n++
	}
	return n
}

// isRightStage tells whether a stage is right, as the chapter's words have it.
func isRightStage(s api.Stage) bool {
	if !within(1, s.Session, 65535) || !within(1, s.Size, 160) {
		return false
	}
	most := 1
	for range blocksOf(s.Size) {
		most *= 2
	}
	return within(0, s.Have, most-1)
}

// fits tells whether a sector can tell these numbers, each of so many bytes.
func fits(width int, ns ...int) bool {
	for _, n := range ns {
		if !within(0, n, 1<<(8*width)-1) {
			return false
		}
	}
	return true
}

// told are a record's bytes ahead of the sum, right or not.
func told(r api.Record) []byte {
	return []byte{0x4c, 0x43, byte(r.Part), byte(r.Seq >> 24), byte(r.Seq >> 16), byte(r.Seq >> 8), byte(r.Seq),
		byte(r.Active), byte(r.Confirmed), byte(r.Left), byte(r.Bad)}
}

// staged are a stage's bytes ahead of the sum, right or not.
func staged(s api.Stage) []byte {
	return []byte{0x4c, 0x53, byte(s.Session >> 8), byte(s.Session), byte(s.Size >> 8), byte(s.Size), byte(s.Have >> 8), byte(s.Have)}
}

// filled are the bytes, and zeros behind them to a sector's end.
func filled(parts ...[]byte) []byte {
	b := make([]byte, sectorSize)
	copy(b, slices.Concat(parts...))
	return b
}

func sumOf(b []byte) []byte {
	n := crc32.ChecksumIEEE(b)
	return []byte{byte(n >> 24), byte(n >> 16), byte(n >> 8), byte(n)}
}

// summed are the bytes, their sum, and zeros.
func summed(b []byte) []byte { return filled(b, sumOf(b)) }

func sectorOf(r api.Record) []byte     { return summed(told(r)) }
func stageSectorOf(s api.Stage) []byte { return summed(staged(s)) }

// records are right ones: an ordinary one, of which the number of four bytes has unlike ones, the least, and two of which all is as much as may be.
func records() []api.Record {
	return []api.Record{
		{Part: 2, Seq: 0x01020304, Active: 1, Confirmed: 0, Left: 3},
		{Seq: 1},
		{Part: 3, Seq: 4294967295, Active: 0, Confirmed: 1, Left: 7},
		{Part: 1, Seq: 4294967295, Active: 1, Confirmed: 1, Bad: 1},
		{Part: 1, Seq: 256, Bad: 2},
	}
}

// stages are right ones, likewise.
func stages() []api.Stage {
	return []api.Stage{
		{Session: 0x0102, Size: 33, Have: 5},
		{Session: 1, Size: 1},
		{Session: 65535, Size: 160, Have: 1023},
		{Session: 256, Size: 129, Have: 257},
	}
}

// refused says whether Get refuses the bytes with that error.
func refused(t *testing.T, what string, b []byte, want api.Errno) {
	t.Helper()
	if r, e := record.Get(b); r != (api.Record{}) || e != want {
		t.Errorf("%s: Get of %x: %v, %v; want %v", what, b, r, e, want)
	}
}

func refusedStage(t *testing.T, what string, b []byte, want api.Errno) {
	t.Helper()
	if s, e := record.GetStage(b); s != (api.Stage{}) || e != want {
		t.Errorf("%s: GetStage of %x: %v, %v; want %v", what, b, s, e, want)
	}
}

func bothRefuse(t *testing.T, what string, b []byte, want api.Errno) {
	t.Helper()
	refused(t, what, b, want)
	refusedStage(t, what, b, want)
}

func taken(t *testing.T, what string, b []byte, want api.Record) {
	t.Helper()
	if r, e := record.Get(b); r != want || e != api.OK {
		t.Errorf("%s: Get of %x: %v, %v; want %v", what, b, r, e, want)
	}
}

func takenStage(t *testing.T, what string, b []byte, want api.Stage) {
	t.Helper()
	if s, e := record.GetStage(b); s != want || e != api.OK {
		t.Errorf("%s: GetStage of %x: %v, %v; want %v", what, b, s, e, want)
	}
}

// judge says whether each call takes r for what it is.
func judge(t *testing.T, what string, r api.Record, want bool) {
	t.Helper()
	if isRight(r) != want {
		t.Fatalf("%s: the test's own words don't make %v %v", what, r, want)
	}
	if got := record.Right(r); got != want {
		t.Errorf("%s: Right of %v: %v", what, r, got)
	}
	b, e := record.Put(r)
	switch {
	case want && (!bytes.Equal(b, sectorOf(r)) || e != api.OK):
		t.Errorf("%s: Put of %v: %x, %v; want %x", what, r, b, e, sectorOf(r))
	case !want && (len(b) != 0 || e != api.ErrRange):
		t.Errorf("%s: Put of %v: %x, %v", what, r, b, e)
	}
	if want {
		taken(t, what, sectorOf(r), r)
	} else if fits(1, r.Part, r.Active, r.Confirmed, r.Left, r.Bad) && fits(4, r.Seq) {
		refused(t, what, sectorOf(r), api.ErrRange)
	}
}

// judgeStage says whether each call takes s for what it is.
func judgeStage(t *testing.T, what string, s api.Stage, want bool) {
	t.Helper()
	if isRightStage(s) != want {
		t.Fatalf("%s: the test's own words don't make %v %v", what, s, want)
	}
	if got := record.RightStage(s); got != want {
		t.Errorf("%s: RightStage of %v: %v", what, s, got)
	}
	b, e := record.PutStage(s)
	switch {
	case want && (!bytes.Equal(b, stageSectorOf(s)) || e != api.OK):
		t.Errorf("%s: PutStage of %v: %x, %v; want %x", what, s, b, e, stageSectorOf(s))
	case !want && (len(b) != 0 || e != api.ErrRange):
		t.Errorf("%s: PutStage of %v: %x, %v", what, s, b, e)
	}
	if want {
		takenStage(t, what, stageSectorOf(s), s)
	} else if fits(2, s.Session, s.Size, s.Have) {
		refusedStage(t, what, stageSectorOf(s), api.ErrRange)
	}
}

// P7.1: what is right.

func TestOrdinary(t *testing.T) {
	for _, r := range records() {
		judge(t, "right", r, true)
	}
	judge(t, "nothing", api.Record{}, false)
	for _, s := range stages() {
		judgeStage(t, "right", s, true)
	}
	judgeStage(t, "nothing", api.Stage{}, false)
}

// around are numbers just within and just beyond these bounds, far beyond them, and where one of fewer bits would be within.
func around(least, most int) []int {
	ns := []int{least - 1, least, least + 1, most - 1, most, most + 1, 2*most + 1, -least, -most,
		math.MinInt, math.MinInt + 1, -1 << 32, -65536, -256, -2, -1, 0, 1, 2, 3, 4, 7, 8, 63, 64, 128, 255, 256, 65535, 65536, 1 << 32, math.MaxInt - 1, math.MaxInt}
	for _, bits := range []int{8, 16, 32} {
		ns = append(ns, least+1<<bits, most+1<<bits, least-1<<bits, most-1<<bits)
	}
	return ns
}

// Each number of a record by itself, of one without a trial and of one with it.
func TestBounds(t *testing.T) {
	for _, f := range []struct {
		what        string
		least, most int
		of          func(r *api.Record) *int
	}{
		{"Part", 0, 3, func(r *api.Record) *int { return &r.Part }},
		{"Seq", 1, 4294967295, func(r *api.Record) *int { return &r.Seq }},
		{"Active", 0, 1, func(r *api.Record) *int { return &r.Active }},
		{"Confirmed", 0, 1, func(r *api.Record) *int { return &r.Confirmed }},
		{"Left", 0, 7, func(r *api.Record) *int { return &r.Left }},
		{"Bad", 0, 3, func(r *api.Record) *int { return &r.Bad }},
	} {
		for _, r := range records() {
			for _, n := range around(f.least, f.most) {
				*f.of(&r) = n
				if !within(f.least, n, f.most) {
					judge(t, f.what, r, false)
				} else {
					judge(t, f.what, r, isRight(r))
				}
			}
		}
	}
}

func TestPartAndSeq(t *testing.T) {
	for part := -1; part <= 4; part++ {
		for _, seq := range []int{-1, 0, 1, 2, 1<<32 - 2, 1<<32 - 1, 1 << 32, 1<<32 + 1} {
			judge(t, "Part and Seq", api.Record{Part: part, Seq: seq}, part >= 0 && part <= 3 && seq >= 1 && seq < 1<<32)
		}
	}
}

// Without a trial nothing is left.
func TestLeft(t *testing.T) {
	for left := -1; left <= 8; left++ {
		for _, slot := range []int{0, 1} {
			judge(t, "no trial", api.Record{Seq: 9, Active: slot, Confirmed: slot, Left: left}, left == 0)
			judge(t, "a trial", api.Record{Seq: 9, Active: slot, Confirmed: 1 - slot, Left: left}, left >= 0 && left <= 7)
		}
	}
}

// A slot is bad only if it is neither Active nor Confirmed.
func TestBad(t *testing.T) {
	for _, c := range []struct {
		active, confirmed int
		may               []int
	}{
		{0, 0, []int{0, 2}},
		{0, 1, []int{0}},
		{1, 0, []int{0}},
		{1, 1, []int{0, 1}},
	} {
		for bad := -2; bad <= 9; bad++ {
			judge(t, "Bad", api.Record{Seq: 9, Active: c.active, Confirmed: c.confirmed, Bad: bad}, slices.Contains(c.may, bad))
		}
	}
}

// Each with each.
func TestSlots(t *testing.T) {
	for active := -1; active <= 3; active++ {
		for confirmed := -1; confirmed <= 3; confirmed++ {
			for left := -1; left <= 8; left++ {
				for bad := -1; bad <= 8; bad++ {
					r := api.Record{Part: 1, Seq: 77, Active: active, Confirmed: confirmed, Left: left, Bad: bad}
					judge(t, "slots", r, isRight(r))
				}
			}
		}
	}
}

// Each number of a stage by itself.
func TestStageBounds(t *testing.T) {
	for _, s := range stages() {
		whole := 1<<blocksOf(s.Size) - 1
		for _, n := range around(1, 65535) {
			c := s
			c.Session = n
			judgeStage(t, "Session", c, n >= 1 && n <= 65535)
		}
		for _, n := range around(1, 160) {
			c := s
			c.Size, c.Have = n, 0
			judgeStage(t, "Size", c, n >= 1 && n <= 160)
		}
		for _, n := range around(0, whole) {
			c := s
			c.Have = n
			judgeStage(t, "Have", c, n >= 0 && n <= whole)
		}
	}
}

// Have at each size.
func TestHave(t *testing.T) {
	for size := -20; size <= 200; size++ {
		whole := 1<<blocksOf(size) - 1
		for _, have := range []int{-1, 0, 1, whole / 2, whole - 1, whole, whole + 1, 2*whole + 1, 1023, 1024, 65535} {
			s := api.Stage{Session: 7, Size: size, Have: have}
			judgeStage(t, "Have", s, size >= 1 && size <= 160 && have >= 0 && have <= whole)
		}
		for have := range 1100 {
			s := api.Stage{Session: 7, Size: size, Have: have}
			if record.RightStage(s) != isRightStage(s) {
				t.Errorf("RightStage of %v: %v", s, !isRightStage(s))
			}
		}
	}
}

func TestBlocks(t *testing.T) {
	for _, size := range []int{math.MinInt, math.MinInt + 1, -1 << 32, -161, -160, -33, -32, -17, -16, -15, -2, -1, 0} {
		if n := record.Blocks(size); n != 0 {
			t.Errorf("Blocks of %d: %d", size, n)
		}
	}
	for n := 1; n <= 2000; n++ {
		for size := 16*n - 15; size <= 16*n; size++ {
			if got := record.Blocks(size); got != n {
				t.Errorf("Blocks of %d: %d", size, got)
			}
		}
	}
	for _, size := range []int{1, 2, 15, 16, 17, 31, 32, 33, 159, 160, 161, 65535} {
		if got := record.Blocks(size); got != blocksOf(size) {
			t.Errorf("Blocks of %d: %d", size, got)
		}
	}
	const most = math.MaxInt/16 + 1
	for size, want := range map[int]int{math.MaxInt: most, math.MaxInt - 14: most, math.MaxInt - 15: most - 1, math.MaxInt - 16: most - 1} {
		if got := record.Blocks(size); got != want {
			t.Errorf("Blocks of %d: %d, want %d", size, got, want)
		}
	}
}

// P7.1: sectors.

// The whole of some sectors, sums too, as they were told elsewhere.
func TestKnownSectors(t *testing.T) {
	for _, c := range []struct {
		r    api.Record
		want string
	}{
		{api.Record{Part: 2, Seq: 258, Active: 1, Left: 3}, "\x4c\x43\x02\x00\x00\x01\x02\x01\x00\x03\x00\xce\xa3\x1a\x82"},
		{api.Record{Seq: 1}, "\x4c\x43\x00\x00\x00\x00\x01\x00\x00\x00\x00\xff\x38\xaf\xd7"},
		{api.Record{Part: 3, Seq: 4294967295, Active: 1, Left: 7}, "\x4c\x43\x03\xff\xff\xff\xff\x01\x00\x07\x00\x96\xf5\x6b\x96"},
	} {
		b, e := record.Put(c.r)
		if !bytes.Equal(b, filled([]byte(c.want))) || e != api.OK {
			t.Errorf("Put of %v: %x, %v", c.r, b, e)
		}
		taken(t, "known", filled([]byte(c.want)), c.r)
	}
	for _, c := range []struct {
		s    api.Stage
		want string
	}{
		{api.Stage{Session: 7, Size: 33, Have: 5}, "\x4c\x53\x00\x07\x00\x21\x00\x05\xf2\xe8\xff\xa9"},
		{api.Stage{Session: 1, Size: 1}, "\x4c\x53\x00\x01\x00\x01\x00\x00\x35\x8f\xb8\x66"},
		{api.Stage{Session: 65535, Size: 160, Have: 1023}, "\x4c\x53\xff\xff\x00\xa0\x03\xff\xf8\xda\x76\x8f"},
	} {
		b, e := record.PutStage(c.s)
		if !bytes.Equal(b, filled([]byte(c.want))) || e != api.OK {
			t.Errorf("PutStage of %v: %x, %v", c.s, b, e)
		}
		takenStage(t, "known", filled([]byte(c.want)), c.s)
	}
}

// The chapter's example.
func TestExample(t *testing.T) {
	for _, r := range records() {
		b, e := record.Put(r)
		if e != api.OK || len(b) != 64 || b[0] != 0x4c || b[1] != 0x43 || !bytes.Equal(b[15:], make([]byte, 49)) {
			t.Errorf("Put of %v: %x, %v", r, b, e)
		}
	}
}

// Bytes that are no sector long, whatever they are.
func TestOtherLengths(t *testing.T) {
	bothRefuse(t, "nil", nil, api.ErrSize)
	bothRefuse(t, "empty", []byte{}, api.ErrSize)
	for _, b := range [][]byte{sectorOf(records()[0]), stageSectorOf(stages()[0]), make([]byte, sectorSize), bytes.Repeat([]byte{0xff}, sectorSize)} {
		for n := range sectorSize {
			bothRefuse(t, "cut behind", b[:n], api.ErrSize)
			bothRefuse(t, "cut behind, no room", slices.Clone(b[:n]), api.ErrSize)
			bothRefuse(t, "cut ahead", b[sectorSize-n:], api.ErrSize)
		}
		for _, n := range []int{1, 2, 15, 49, 63, 64, 65, 1 << 16} {
			bothRefuse(t, "zeros behind", slices.Concat(b, make([]byte, n)), api.ErrSize)
			bothRefuse(t, "zeros ahead", slices.Concat(make([]byte, n), b), api.ErrSize)
		}
		bothRefuse(t, "twice", slices.Concat(b, b), api.ErrSize)
	}
}

// Another beginning, under the sum of what was there, and under its own.
func TestOtherMarks(t *testing.T) {
	r, s := told(records()[0]), staged(stages()[0])
	for _, at := range []int{0, 1} {
		for n := 1; n < 256; n++ {
			c, d := slices.Clone(r), slices.Clone(s)
			c[at] ^= byte(n)
			d[at] ^= byte(n)
			refused(t, "another mark", filled(c, sumOf(r)), api.ErrForm)
			refused(t, "another mark, summed", summed(c), api.ErrForm)
			refusedStage(t, "another mark", filled(d, sumOf(s)), api.ErrForm)
			refusedStage(t, "another mark, summed", summed(d), api.ErrForm)
		}
	}
	for _, mark := range []string{"CL", "SL", "LI", "lc", "ls", "\x00\x00", "\xff\xff"} {
		refused(t, mark, summed(slices.Concat([]byte(mark), r[2:])), api.ErrForm)
		refusedStage(t, mark, summed(slices.Concat([]byte(mark), s[2:])), api.ErrForm)
	}
	bothRefuse(t, "no mark", summed(r[2:]), api.ErrForm)
	bothRefuse(t, "no mark", summed(s[2:]), api.ErrForm)
	bothRefuse(t, "a byte ahead", summed(slices.Concat([]byte{0}, r)), api.ErrForm)
	bothRefuse(t, "a byte ahead", summed(slices.Concat([]byte{0}, s)), api.ErrForm)
}

// A record's sector isn't a stage's, nor the reverse, whatever they tell.
func TestOneAskedAsTheOther(t *testing.T) {
	for _, r := range append(records(), api.Record{}) {
		refusedStage(t, "a record", sectorOf(r), api.ErrForm)
		c := told(r)
		c[1] = 'S'
		refused(t, "a record, marked as a stage", summed(c), api.ErrForm)
	}
	for _, s := range append(stages(), api.Stage{}) {
		refused(t, "a stage", stageSectorOf(s), api.ErrForm)
		c := staged(s)
		c[1] = 'C'
		refusedStage(t, "a stage, marked as a record", summed(c), api.ErrForm)
	}
	c := slices.Concat([]byte("LC"), staged(stages()[0])[2:], make([]byte, 3)) // as long as a record
	refused(t, "a stage's numbers in a record", summed(c), api.ErrRange)
	c = slices.Concat([]byte("LS"), told(records()[0])[2:8]) // as long as a stage
	refusedStage(t, "a record's numbers in a stage", summed(c), api.ErrRange)
}

// turnedAt is what is told of a sector in which a byte was turned: n bytes are ahead of its sum.
func turnedAt(at, n int) api.Errno {
	if at < 2 || at >= n+4 {
		return api.ErrForm
	}
	return api.ErrDigest
}

// Any one byte, turned to each other value.
func TestTurnedBytes(t *testing.T) {
	for at := range sectorSize {
		for n := 1; n < 256; n++ {
			for _, r := range records() {
				b := sectorOf(r)
				b[at] ^= byte(n)
				refused(t, "turned", b, turnedAt(at, toldRecord))
			}
			for _, s := range stages() {
				b := stageSectorOf(s)
				b[at] ^= byte(n)
				refusedStage(t, "turned", b, turnedAt(at, toldStage))
			}
		}
	}
}

// Any two bits turned: of two errors ErrForm is told.
func TestTwoTurnedBits(t *testing.T) {
	r, s := sectorOf(records()[0]), stageSectorOf(stages()[0])
	worse := func(one, two, n int) api.Errno {
		if turnedAt(one, n) == api.ErrForm || turnedAt(two, n) == api.ErrForm {
			return api.ErrForm
		}
		return api.ErrDigest
	}
	for one := range 8 * sectorSize {
		for two := range one {
			b, c := slices.Clone(r), slices.Clone(s)
			for _, bit := range []int{one, two} {
				b[bit/8] ^= 1 << (bit % 8)
				c[bit/8] ^= 1 << (bit % 8)
			}
			refused(t, "turned twice", b, worse(one/8, two/8, toldRecord))
			refusedStage(t, "turned twice", c, worse(one/8, two/8, toldStage))
		}
	}
}

// What is behind the sum is zeros, all of it, even where the sum is right.
func TestBehindTheSum(t *testing.T) {
	for _, r := range records() {
		b := sectorOf(r)
		for at := toldRecord + 4; at < sectorSize; at++ {
			for _, n := range []byte{1, 0x4c, 0x80, 0xff} {
				c := slices.Clone(b)
				c[at] = n
				refused(t, "no zero", c, api.ErrForm)
			}
		}
		refused(t, "no zeros", append(b[:15:15], bytes.Repeat([]byte{0xff}, 49)...), api.ErrForm)
		refused(t, "once again", append(b[:15:15], slices.Concat(b, b, b, b)[:49]...), api.ErrForm)
		refused(t, "the sum of the whole", append(b[:60:60], sumOf(b[:60])...), api.ErrForm)
	}
	for _, s := range stages() {
		b := stageSectorOf(s)
		for at := toldStage + 4; at < sectorSize; at++ {
			for _, n := range []byte{1, 0x4c, 0x80, 0xff} {
				c := slices.Clone(b)
				c[at] = n
				refusedStage(t, "no zero", c, api.ErrForm)
			}
		}
		refusedStage(t, "no zeros", append(b[:12:12], bytes.Repeat([]byte{0xff}, 52)...), api.ErrForm)
		refusedStage(t, "once again", append(b[:12:12], slices.Concat(b, b, b, b)[:52]...), api.ErrForm)
		refusedStage(t, "the sum of the whole", append(b[:60:60], sumOf(b[:60])...), api.ErrForm)
	}
}

// wrongSums are sums that aren't those of the bytes: of less, of more, turned over, from the lowest byte on, zero, one beside it.
func wrongSums(b []byte) [][]byte {
	sum := sumOf(b)
	over, about, beside := slices.Clone(sum), slices.Clone(sum), slices.Clone(sum)
	for i := range over {
		over[i] = ^over[i]
	}
	slices.Reverse(about)
	beside[3]++
	return [][]byte{sumOf(b[2:]), sumOf(b[:len(b)-1]), sumOf(filled(b)), sumOf(append(b, 0)), over, about, beside, make([]byte, 4)}
}

func TestWrongSums(t *testing.T) {
	for _, r := range append(records(), api.Record{Part: 99}) {
		for _, sum := range wrongSums(told(r)) {
			refused(t, "a wrong sum", filled(told(r), sum), api.ErrDigest)
		}
	}
	for _, s := range append(stages(), api.Stage{Have: 9}) {
		for _, sum := range wrongSums(staged(s)) {
			refusedStage(t, "a wrong sum", filled(staged(s), sum), api.ErrDigest)
		}
	}
}

// Whatever stands at one place under a right sum, a sector is taken for what it tells, or refused.
func TestEachByteUnderARightSum(t *testing.T) {
	for n := range 256 {
		for at := range toldRecord {
			for _, r := range append(records(), api.Record{}) {
				b := told(r)
				b[at] = byte(n)
				got(t, summed(b))
			}
		}
		for at := range toldStage {
			for _, s := range append(stages(), api.Stage{}) {
				b := staged(s)
				b[at] = byte(n)
				got(t, summed(b))
			}
		}
	}
}

// got says whether both calls take the bytes for what they are: read here place by place.
func got(t *testing.T, b []byte) {
	t.Helper()
	if len(b) != sectorSize {
		bothRefuse(t, "got", b, api.ErrSize)
		return
	}
	if e := formed(b, "LC", toldRecord); e != api.OK {
		refused(t, "got", b, e)
	} else {
		seq := int(b[3])<<24 | int(b[4])<<16 | int(b[5])<<8 | int(b[6])
		gotRecord(t, b, api.Record{Part: int(b[2]), Seq: seq, Active: int(b[7]), Confirmed: int(b[8]), Left: int(b[9]), Bad: int(b[10])})
	}
	if e := formed(b, "LS", toldStage); e != api.OK {
		refusedStage(t, "got", b, e)
	} else {
		gotStage(t, b, api.Stage{Session: int(b[2])<<8 | int(b[3]), Size: int(b[4])<<8 | int(b[5]), Have: int(b[6])<<8 | int(b[7])})
	}
}

// formed tells what is wrong with a sector, whatever it tells: n bytes are ahead of its sum.
func formed(b []byte, mark string, n int) api.Errno {
	if string(b[:2]) != mark || !bytes.Equal(b[n+4:], make([]byte, sectorSize-n-4)) {
		return api.ErrForm
	}
	if !bytes.Equal(b[n:n+4], sumOf(b[:n])) {
		return api.ErrDigest
	}
	return api.OK
}

func gotRecord(t *testing.T, b []byte, r api.Record) {
	t.Helper()
	judge(t, "got", r, isRight(r))
	if !isRight(r) {
		return
	}
	taken(t, "got", b, r)
	if c, e := record.Put(r); !bytes.Equal(b, c) || e != api.OK {
		t.Errorf("Put of what was got of %x: %x, %v", b, c, e)
	}
}

func gotStage(t *testing.T, b []byte, s api.Stage) {
	t.Helper()
	judgeStage(t, "got", s, isRightStage(s))
	if !isRightStage(s) {
		return
	}
	takenStage(t, "got", b, s)
	if c, e := record.PutStage(s); !bytes.Equal(b, c) || e != api.OK {
		t.Errorf("PutStage of what was got of %x: %x, %v", b, c, e)
	}
}

// P7.2.

func TestWhatIsPutIsGot(t *testing.T) {
	seqs := []int{1, 2, 255, 256, 65535, 65536, 1<<24 - 1, 1 << 24, 1<<31 - 1, 1 << 31, 1<<32 - 2, 1<<32 - 1}
	many := 0
	for n := range 4 * 2 * 2 * 8 * 4 {
		for _, seq := range seqs {
			r := api.Record{Part: n % 4, Seq: seq, Active: n / 4 % 2, Confirmed: n / 8 % 2, Left: n / 16 % 8, Bad: n / 128}
			if !isRight(r) {
				continue
			}
			many++
			b, e := record.Put(r)
			if x, f := record.Get(b); x != r || e != api.OK || f != api.OK {
				t.Errorf("%v: got %v, %v, %v", r, x, e, f)
			}
			refusedStage(t, "a record", b, api.ErrForm)
		}
	}
	if want := 4 * len(seqs) * (2*2 + 2*8); many != want { // two bads without a trial, eight lefts with one
		t.Errorf("%d records, want %d", many, want)
	}
}

func TestEachStageIsPutAndGot(t *testing.T) {
	for size := 1; size <= 160; size++ {
		whole := 1<<blocksOf(size) - 1
		for have := 0; have <= whole; have += 1 + whole/40 {
			putAndGot(t, api.Stage{Session: 1 + size*have*7%65535, Size: size, Have: have})
		}
		putAndGot(t, api.Stage{Session: size, Size: size, Have: whole})
	}
	for session := 1; session <= 65535; session += 1 + session/200 {
		putAndGot(t, api.Stage{Session: session, Size: 20, Have: 2})
	}
}

func putAndGot(t *testing.T, s api.Stage) {
	t.Helper()
	b, e := record.PutStage(s)
	if x, f := record.GetStage(b); x != s || e != api.OK || f != api.OK {
		t.Errorf("%v: got %v, %v, %v", s, x, e, f)
	}
	refused(t, "a stage", b, api.ErrForm)
}

// Sectors of one byte again and again are neither, nor are such that begin as one.
func TestSectorsOfOneByte(t *testing.T) {
	bothRefuse(t, "zeros", make([]byte, sectorSize), api.ErrForm)
	for n := range 256 {
		b := bytes.Repeat([]byte{byte(n)}, sectorSize)
		bothRefuse(t, "one byte", b, api.ErrForm)
		bothRefuse(t, "one byte too few", b[1:], api.ErrSize)
		bothRefuse(t, "one byte too many", append(b, byte(n)), api.ErrSize)
		for _, mark := range []string{"LC", "LS"} {
			c := slices.Concat([]byte(mark), b[2:])
			got(t, c)
			got(t, summed(c[:toldRecord]))
			got(t, summed(c[:toldStage]))
		}
	}
	for _, mark := range []string{"LC", "LS"} {
		got(t, filled([]byte(mark)))
	}
	refused(t, "a mark and zeros", filled([]byte("LC")), api.ErrDigest)
	refusedStage(t, "a mark and zeros", filled([]byte("LS")), api.ErrDigest)
	refused(t, "a mark, zeros and their sum", summed(filled([]byte("LC"))[:toldRecord]), api.ErrRange)
	refusedStage(t, "a mark, zeros and their sum", summed(filled([]byte("LS"))[:toldStage]), api.ErrRange)
}

// The rules. R1: each call ends, and none panics, at all arguments.

func TestWildNumbers(t *testing.T) {
	wild := []int{math.MinInt, math.MinInt + 1, -65, -64, -1, 0, 1, 2, 31, 32, 63, 64, 65, math.MaxInt - 1, math.MaxInt}
	for _, a := range wild {
		for _, b := range wild {
			for _, r := range []api.Record{
				{Part: a, Seq: b, Active: a, Confirmed: b, Left: a, Bad: b},
				{Seq: 1, Active: a, Confirmed: b},
				{Seq: 1, Active: a, Confirmed: a, Bad: b},
				{Seq: 1, Active: a, Left: b},
				{Seq: 1, Confirmed: a, Left: b},
			} {
				judge(t, "wild", r, isRight(r))
			}
			for _, s := range []api.Stage{{Session: a, Size: b, Have: a}, {Session: 1, Size: a, Have: b}} {
				judgeStage(t, "wild", s, isRightStage(s))
			}
		}
	}
}

func TestLongBytes(t *testing.T) {
	for _, b := range [][]byte{make([]byte, 1<<20), bytes.Repeat([]byte{0xff}, 1<<20+1), bytes.Repeat([]byte("LC"), 1<<19), bytes.Repeat([]byte("LS"), 1<<19)} {
		bothRefuse(t, "long", b, api.ErrSize)
	}
}

// R2: of several errors the one that P7.1 names first is told.
func TestErrorsInOrder(t *testing.T) {
	wrong, wrongStage := told(api.Record{Part: 9, Bad: 9}), staged(api.Stage{Size: 999, Have: 999})
	unmarked := func(b []byte) []byte { return slices.Concat([]byte("XX"), b[2:]) }
	spotted := func(b []byte) []byte { return append(b[:63:63], 1) }
	sum := []byte{1, 2, 3, 4}
	for _, c := range []struct {
		what              string
		ofRecord, ofStage []byte
		want              api.Errno
	}{
		{"too short, unmarked, wrong", unmarked(wrong), unmarked(wrongStage), api.ErrSize},
		{"too short, no sum, wrong", summed(wrong)[:12], summed(wrongStage)[:9], api.ErrSize},
		{"too long, unmarked, a wrong sum, wrong", append(filled(unmarked(wrong), sum), 1), append(filled(unmarked(wrongStage), sum), 1), api.ErrSize},
		{"too long, wrong", append(summed(wrong), 0), append(summed(wrongStage), 0), api.ErrSize},
		{"unmarked, no zeros, a wrong sum, wrong", spotted(filled(unmarked(wrong), sum)), spotted(filled(unmarked(wrongStage), sum)), api.ErrForm},
		{"unmarked, a wrong sum, wrong", filled(unmarked(wrong), sum), filled(unmarked(wrongStage), sum), api.ErrForm},
		{"unmarked, wrong", summed(unmarked(wrong)), summed(unmarked(wrongStage)), api.ErrForm},
		{"no zeros, a wrong sum, wrong", spotted(filled(wrong, sum)), spotted(filled(wrongStage, sum)), api.ErrForm},
		{"no zeros, wrong", spotted(summed(wrong)), spotted(summed(wrongStage)), api.ErrForm},
		{"a wrong sum, wrong", filled(wrong, sum), filled(wrongStage, sum), api.ErrDigest},
		{"wrong", summed(wrong), summed(wrongStage), api.ErrRange},
	} {
		refused(t, c.what, c.ofRecord, c.want)
		refusedStage(t, c.what, c.ofStage, c.want)
	}
}

// R4: what is handed in stays as it was, the room behind it, too.
func TestChangesNothing(t *testing.T) {
	var sectors [][]byte
	for _, r := range append(records(), api.Record{Part: 9}) {
		sectors = append(sectors, sectorOf(r))
	}
	for _, s := range append(stages(), api.Stage{Have: 9}) {
		sectors = append(sectors, stageSectorOf(s))
	}
	for _, b := range append(sectors, make([]byte, sectorSize), bytes.Repeat([]byte{0x4c}, sectorSize)) {
		whole := append(b, bytes.Repeat([]byte{0xee}, 100)...)
		was := slices.Clone(whole)
		for n := range len(whole) + 1 {
			record.Get(whole[:n])
			record.GetStage(whole[:n])
			if !bytes.Equal(whole, was) {
				t.Fatalf("%x was %x", whole, was)
			}
		}
	}
}

// spoil writes over all of b, spare room included.
func spoil(b []byte) {
	for i := range b[:cap(b)] {
		b[:cap(b)][i] = 0xee
	}
}

// R4: what is answered is new memory, and nothing that is handed in is kept.
func TestAnswersAreNew(t *testing.T) {
	for _, r := range records() {
		for _, s := range stages() {
			b, _ := record.Put(r)
			c, _ := record.Put(r)
			d, _ := record.PutStage(s)
			e, _ := record.PutStage(s)
			spoil(b)
			spoil(d)
			if !bytes.Equal(c, sectorOf(r)) || !bytes.Equal(e, stageSectorOf(s)) {
				t.Errorf("%x, %x: not as they were put", c, e)
			}
			x, _ := record.Get(c)
			y, _ := record.GetStage(e)
			spoil(c)
			spoil(e)
			if x != r || y != s {
				t.Errorf("%v, %v: not as they were got", x, y)
			}
			judge(t, "at last", r, true)
			judgeStage(t, "at last", s, true)
		}
	}
}

// R5: what was asked ahead doesn't matter, nor does the room behind what is handed in.
func TestAsksLeaveNothing(t *testing.T) {
	for range 3 {
		for _, r := range records() {
			judge(t, "again", r, true)
			taken(t, "with room behind", append(make([]byte, 0, 300), sectorOf(r)...), r)
			r.Part = 4
			judge(t, "wrong between", r, false)
			bothRefuse(t, "zeros between", make([]byte, sectorSize), api.ErrForm)
		}
		for _, s := range stages() {
			judgeStage(t, "again", s, true)
			takenStage(t, "with room behind", append(make([]byte, 0, 300), stageSectorOf(s)...), s)
			s.Have = 1 << 10
			judgeStage(t, "wrong between", s, false)
			bothRefuse(t, "nothing between", nil, api.ErrSize)
		}
	}
}

// FuzzGet: whatever the bytes are, with a sum of their own and without, they are taken for what they tell.
func FuzzGet(f *testing.F) {
	for _, r := range append(records(), api.Record{}) {
		f.Add(sectorOf(r))
		f.Add(told(r))
	}
	for _, s := range append(stages(), api.Stage{}) {
		f.Add(stageSectorOf(s))
		f.Add(staged(s))
	}
	f.Fuzz(func(t *testing.T, b []byte) {
		got(t, b)
		got(t, filled(b))
		for _, mark := range []string{"LC", "LS"} {
			c := filled([]byte(mark), b)
			got(t, c)
			got(t, summed(c[:toldRecord]))
			got(t, summed(c[:toldStage]))
		}
	})
}
