package place_test

import (
	"math"
	"slices"
	"strconv"
	"strings"
	"testing"

	"longeron/place"
)

const (
	parts        = 4
	partSectors  = 10
	diskSectors  = 40
	slots        = 2
	copies       = 2
	imageSectors = 3
	blocks       = 10
	sectorBytes  = 64
	blockBytes   = 16
)

// What a sector is.
const (
	isCommit = 0
	isStage  = 1
	isImage  = 2
)

// spot is what stands in a sector: of which partition, what, and which one of them (a copy; a slot; a slot and its i).
type spot struct{ part, what, a, b int }

// layout is the disk of four partitions, sector by sector, as the chapter's words have it.
func layout() []spot {
	var all []spot
	for part := range parts {
		for c := range copies {
			all = append(all, spot{part, isCommit, c, 0})
		}
		for slot := range slots {
			all = append(all, spot{part, isStage, slot, 0})
			for i := range imageSectors {
				all = append(all, spot{part, isImage, slot, i})
			}
		}
	}
	return all
}

// ask asks the call that tells the spot's sector.
func (s spot) ask() (int, bool) {
	switch s.what {
	case isCommit:
		return place.Commit(s.part, s.a)
	case isStage:
		return place.Stage(s.part, s.a)
	}
	return place.Data(s.part, s.a, s.b)
}

func (s spot) String() string {
	call := []string{"Commit", "Stage", "Data"}[s.what]
	of := []string{strconv.Itoa(s.part), strconv.Itoa(s.a)}
	if s.what == isImage {
		of = append(of, strconv.Itoa(s.b))
	}
	return call + "(" + strings.Join(of, ", ") + ")"
}

// judge says whether the call that is asked for s tells what the layout does: its sector, or that there is none, and 0.
func judge(t *testing.T, s spot) {
	t.Helper()
	want := slices.Index(layout(), s)
	n, is := s.ask()
	if want < 0 && (n != 0 || is) {
		t.Errorf("%v: %d, %v; there is none", s, n, is)
	}
	if want >= 0 && (n != want || !is) {
		t.Errorf("%v: %d, %v; want %d", s, n, is, want)
	}
}

// judgeBlock likewise; the blocks are counted one by one.
func judgeBlock(t *testing.T, no int) {
	t.Helper()
	i, from, want := 0, 0, false
	for n := range blocks {
		if n == no {
			want = true
			break
		}
		if from += blockBytes; from == sectorBytes {
			i, from = i+1, 0
		}
	}
	if !want {
		i, from = 0, 0
	}
	if gotI, gotFrom, is := place.Block(no); gotI != i || gotFrom != from || is != want {
		t.Errorf("Block(%d): %d, %d, %v; want %d, %d, %v", no, gotI, gotFrom, is, i, from, want)
	}
}

func judgeWhat(t *testing.T, sector int) {
	t.Helper()
	part, what := -1, -1
	if sector >= 0 && sector < diskSectors {
		part, what = layout()[sector].part, layout()[sector].what
	}
	if gotPart, gotWhat := place.What(sector); gotPart != part || gotWhat != what {
		t.Errorf("What(%d): %d, %d; want %d, %d", sector, gotPart, gotWhat, part, what)
	}
}

// judgeSectors holds the number within its bounds ahead of reckoning with it, so that nothing wraps round.
func judgeSectors(t *testing.T, n int) {
	t.Helper()
	want := n
	if n < 1 {
		want = 1
	}
	if n > parts {
		want = parts
	}
	want *= partSectors
	if got := place.Sectors(n); got != want {
		t.Errorf("Sectors(%d): %d, want %d", n, got, want)
	}
}

// around are numbers within 0 to count - 1, just beyond, far beyond, where one of fewer bits would be within, and where so many times as much (as sectors are reckoned) wraps round into it.
func around(count int) []int {
	ns := []int{math.MinInt, math.MinInt + 1, math.MinInt32, -65536, -256, -40, -11, -10, -4, -3, -2, -1,
		65535, 65536, math.MaxInt32, math.MaxInt - 1, math.MaxInt}
	for n := range count + 2 {
		ns = append(ns, n)
		for _, bits := range []int{5, 8, 16, 32, 60, 61, 62, 63} {
			ns = append(ns, n+1<<bits, n-1<<bits)
		}
	}
	for _, by := range []int{2, 3, 4, 10, 16} {
		ns = append(ns, math.MaxInt/by, math.MaxInt/by+1, math.MinInt/by, math.MinInt/by-1)
	}
	for _, n := range []int{4, 5, 9, 10, 11, 15, 16, 17, 39, 40, 41, 63, 64, 127, 128, 255, 256} {
		ns = append(ns, n)
	}
	slices.Sort(ns)
	return slices.Compact(ns)
}

// few are some of these, for all of several at once.
func few(count int) []int {
	ns := []int{math.MinInt, math.MinInt + 1, -1 << 32, -count - 1, -count, -2, -1, count + 1, 2 * count, 10, 40, 256, 1 << 32, math.MaxInt/4 + 1, math.MaxInt - 1, math.MaxInt}
	for n := range count + 1 {
		ns = append(ns, n)
	}
	slices.Sort(ns)
	return slices.Compact(ns)
}

// P9.1: how many sectors.

func TestSectors(t *testing.T) {
	for _, c := range [][2]int{{1, 10}, {2, 20}, {3, 30}, {4, 40}, {0, 10}, {5, 40}, {-1, 10}, {6, 40}, {10, 40}, {40, 40},
		{math.MinInt, 10}, {math.MinInt + 1, 10}, {math.MaxInt - 1, 40}, {math.MaxInt, 40}} {
		if got := place.Sectors(c[0]); got != c[1] {
			t.Errorf("Sectors(%d): %d, want %d", c[0], got, c[1])
		}
	}
	for _, n := range around(parts) {
		judgeSectors(t, n)
	}
	for n := -300; n <= 300; n++ {
		judgeSectors(t, n)
	}
}

// P9.1: where a partition's things stand.

func TestExample(t *testing.T) {
	if n, is := place.Data(1, 1, 0); n != 17 || !is {
		t.Errorf("%d, %v; want 17", n, is)
	}
}

// The disk's places, as they were counted by hand.
func TestKnownPlaces(t *testing.T) {
	for part, first := range []int{0, 10, 20, 30} {
		for _, c := range []struct {
			s    spot
			want int
		}{
			{spot{part, isCommit, 0, 0}, first},
			{spot{part, isCommit, 1, 0}, first + 1},
			{spot{part, isStage, 0, 0}, first + 2},
			{spot{part, isImage, 0, 0}, first + 3},
			{spot{part, isImage, 0, 1}, first + 4},
			{spot{part, isImage, 0, 2}, first + 5},
			{spot{part, isStage, 1, 0}, first + 6},
			{spot{part, isImage, 1, 0}, first + 7},
			{spot{part, isImage, 1, 1}, first + 8},
			{spot{part, isImage, 1, 2}, first + 9},
		} {
			if n, is := c.s.ask(); n != c.want || !is {
				t.Errorf("%v: %d, %v; want %d", c.s, n, is, c.want)
			}
		}
	}
}

func TestEachPlace(t *testing.T) {
	if len(layout()) != diskSectors {
		t.Fatalf("the test's own words make %d sectors", len(layout()))
	}
	for _, s := range layout() {
		judge(t, s)
	}
}

// Each argument by itself, the other ones each of those that there are.
func TestOneArgument(t *testing.T) {
	for _, s := range layout() {
		for _, part := range around(parts) {
			judge(t, spot{part, s.what, s.a, s.b})
		}
		for _, a := range around(slots) {
			judge(t, spot{s.part, s.what, a, s.b})
		}
		if s.what != isImage {
			continue
		}
		for _, i := range around(imageSectors) {
			judge(t, spot{s.part, s.what, s.a, i})
		}
	}
}

// Several at once: one beyond doesn't make good another one, and no two that are beyond meet at a sector that there is.
func TestSeveralArguments(t *testing.T) {
	for _, part := range few(parts) {
		for _, a := range few(slots) {
			judge(t, spot{part, isCommit, a, 0})
			judge(t, spot{part, isStage, a, 0})
			for _, i := range few(imageSectors) {
				judge(t, spot{part, isImage, a, i})
			}
		}
	}
}

// Small arguments, all of them: what would be another partition's sector, or another slot's, isn't told.
func TestSmallArguments(t *testing.T) {
	for part := -12; part <= 12; part++ {
		for a := -12; a <= 12; a++ {
			judge(t, spot{part, isCommit, a, 0})
			judge(t, spot{part, isStage, a, 0})
			for i := -12; i <= 12; i++ {
				judge(t, spot{part, isImage, a, i})
			}
		}
	}
}

// P9.1: where blocks stand.

func TestKnownBlocks(t *testing.T) {
	for no, want := range [][2]int{{0, 0}, {0, 16}, {0, 32}, {0, 48}, {1, 0}, {1, 16}, {1, 32}, {1, 48}, {2, 0}, {2, 16}} {
		if i, from, is := place.Block(no); i != want[0] || from != want[1] || !is {
			t.Errorf("Block(%d): %d, %d, %v; want %v", no, i, from, is, want)
		}
	}
}

func TestBlockBounds(t *testing.T) {
	for _, no := range around(blocks) {
		judgeBlock(t, no)
	}
	for no := -300; no <= 300; no++ {
		judgeBlock(t, no)
	}
	for _, no := range []int{math.MinInt, math.MinInt + 1, -1, 10, 11, 12, math.MaxInt - 1, math.MaxInt} {
		if i, from, is := place.Block(no); i != 0 || from != 0 || is {
			t.Errorf("Block(%d): %d, %d, %v", no, i, from, is)
		}
	}
}

// Of all bytes of an image's sectors each is one block's, or none's; the blocks' are the first ones, one behind the other, and no block is cut by a sector's end.
func TestBlocksStandBehindEachOther(t *testing.T) {
	var owner [imageSectors * sectorBytes]int
	end := 0
	for no := range blocks {
		i, from, is := place.Block(no)
		if !is || i < 0 || i >= imageSectors || from < 0 || from+blockBytes > sectorBytes {
			t.Fatalf("Block(%d): %d, %d, %v: not within a sector", no, i, from, is)
		}
		if at := i*sectorBytes + from; at != end {
			t.Errorf("block %d begins at byte %d, and the one ahead ends at %d", no, at, end)
		}
		for b := range blockBytes {
			owner[i*sectorBytes+from+b]++
		}
		end += blockBytes
	}
	for at, n := range owner {
		if want := at < blocks*blockBytes; want != (n == 1) || n > 1 {
			t.Errorf("byte %d is %d blocks'", at, n)
		}
	}
}

// Each block of each slot has bytes of its own on the disk, in a sector of an image of that partition.
func TestBlocksOfTheDisk(t *testing.T) {
	type bytesFrom struct{ sector, from int }
	whose := map[bytesFrom]spot{}
	for part := range parts {
		for slot := range slots {
			for no := range blocks {
				i, from, _ := place.Block(no)
				sector, is := place.Data(part, slot, i)
				if p, what := place.What(sector); !is || p != part || what != isImage {
					t.Errorf("block %d of slot %d of %d: in sector %d, which is %d, %d", no, slot, part, sector, p, what)
				}
				if other, taken := whose[bytesFrom{sector, from}]; taken {
					t.Errorf("block %d of slot %d of %d stands where block %d of slot %d of %d does", no, slot, part, other.b, other.a, other.part)
				}
				whose[bytesFrom{sector, from}] = spot{part, isImage, slot, no}
			}
		}
	}
	if len(whose) != parts*slots*blocks {
		t.Errorf("%d blocks", len(whose))
	}
}

// P9.2: what a sector is.

func TestWhatOfEachSector(t *testing.T) {
	kinds := []int{0, 0, 1, 2, 2, 2, 1, 2, 2, 2}
	for sector := range diskSectors {
		judgeWhat(t, sector)
		if part, what := place.What(sector); part != sector/10 || what != kinds[sector%10] {
			t.Errorf("What(%d): %d, %d", sector, part, what)
		}
	}
}

func TestWhatOfNone(t *testing.T) {
	for _, sector := range []int{math.MinInt, math.MinInt + 1, -1 << 32, -256, -41, -40, -39, -11, -10, -9, -2, -1, 40, 41, 42, 49, 50, 64, 79, 80,
		255, 256, 300, 65536, 1 << 32, 1<<32 + 1, math.MaxInt - 1, math.MaxInt} {
		if part, what := place.What(sector); part != -1 || what != -1 {
			t.Errorf("What(%d): %d, %d", sector, part, what)
		}
	}
	for _, sector := range around(diskSectors) {
		judgeWhat(t, sector)
	}
	for sector := -1000; sector <= 1000; sector++ {
		judgeWhat(t, sector)
	}
}

// What is told of the sector that a call tells is what was asked for.
func TestWhatOfEachPlace(t *testing.T) {
	for _, s := range layout() {
		n, is := s.ask()
		if part, what := place.What(n); !is || part != s.part || what != s.what {
			t.Errorf("%v is %d, %v, and that is %d, %d", s, n, is, part, what)
		}
	}
}

// No two places are one sector, none is beyond the disk, and each sector is a place.
func TestPlacesAreApart(t *testing.T) {
	var whose [diskSectors][]spot
	for _, s := range layout() {
		n, is := s.ask()
		if !is || n < 0 || n >= diskSectors {
			t.Fatalf("%v: %d, %v", s, n, is)
		}
		whose[n] = append(whose[n], s)
	}
	for n, ss := range whose {
		if len(ss) != 1 {
			t.Errorf("sector %d is %v", n, ss)
		}
	}
}

// A partition's sectors are ten, one behind the other, behind those of the ones ahead, and a disk of so many partitions ends with the last one's.
func TestPartitionsStandBehindEachOther(t *testing.T) {
	next := 0
	for part := range parts {
		var of []int
		for _, s := range layout() {
			if s.part == part {
				n, _ := s.ask()
				of = append(of, n)
			}
		}
		if len(of) != partSectors {
			t.Errorf("partition %d has %d sectors", part, len(of))
		}
		for _, n := range of {
			if n != next {
				t.Errorf("partition %d: sector %d, want %d", part, n, next)
			}
			next++
		}
		if got := place.Sectors(part + 1); got != next {
			t.Errorf("Sectors(%d): %d; its last partition ends ahead of %d", part+1, got, next)
		}
	}
}

// R1: whatever they are given, the calls end. R2, R3: beside a false stands nothing.
func TestWildArguments(t *testing.T) {
	state := uint64(0x9e3779b97f4a7c15)
	draw := func() int {
		state ^= state << 13
		state ^= state >> 7
		state ^= state << 17
		return int(state) >> (state % 64)
	}
	for range 20000 {
		a, b, c := draw(), draw(), draw()
		judge(t, spot{a, isCommit, b, 0})
		judge(t, spot{a, isStage, b, 0})
		judge(t, spot{a, isImage, b, c})
		judgeBlock(t, a)
		judgeWhat(t, b)
		judgeSectors(t, c)
	}
}

// answers are what all calls tell of these arguments.
func answers(a, b, c int) [11]int {
	number := func(is bool) int {
		if is {
			return 1
		}
		return 0
	}
	commit, isCommit := place.Commit(a, b)
	stage, isStage := place.Stage(a, b)
	data, isData := place.Data(a, b, c)
	i, from, isBlock := place.Block(c)
	part, what := place.What(a)
	return [...]int{commit, number(isCommit), stage, number(isStage), data, number(isData), i, from, number(isBlock), part*100 + what, place.Sectors(a)}
}

// R4 and R5: a call answers the same when it is made again, whatever was asked in between, in this order or in another one.
func TestAsksLeaveNothing(t *testing.T) {
	type asked struct{ a, b, c int }
	var all []asked
	for _, a := range few(diskSectors) {
		for _, b := range few(slots) {
			for _, c := range few(imageSectors) {
				all = append(all, asked{a, b, c})
			}
		}
	}
	first := make([][11]int, len(all))
	for n, q := range all {
		first[n] = answers(q.a, q.b, q.c)
		if again := answers(q.a, q.b, q.c); again != first[n] {
			t.Errorf("%v: %v, then %v", q, first[n], again)
		}
	}
	for n, q := range slices.Backward(all) {
		if again := answers(q.a, q.b, q.c); again != first[n] {
			t.Errorf("%v: %v, then, behind the others, %v", q, first[n], again)
		}
	}
}

// R5: several that ask at the same time are told the same.
func TestAskedAtTheSameTime(t *testing.T) {
	told := make(chan []int)
	for range parts {
		go func() {
			var ns []int
			for range 100 {
				for _, s := range layout() {
					n, _ := s.ask()
					ns = append(ns, n)
				}
			}
			told <- ns
		}()
	}
	for range parts {
		for at, n := range <-told {
			if want := at % diskSectors; n != want {
				t.Fatalf("%v: %d, want %d", layout()[want], n, want)
			}
		}
	}
}

func FuzzPlace(f *testing.F) {
	f.Add(1, 1, 0)
	f.Add(0, 0, 9)
	f.Add(3, 1, 2)
	f.Add(4, -1, 3)
	f.Add(39, 2, 10)
	f.Add(math.MaxInt, math.MinInt, math.MaxInt)
	f.Fuzz(func(t *testing.T, a, b, c int) {
		judge(t, spot{a, isCommit, b, 0})
		judge(t, spot{a, isStage, b, 0})
		judge(t, spot{a, isImage, b, c})
		judgeBlock(t, c)
		judgeWhat(t, a)
		judgeSectors(t, a)
	})
}
