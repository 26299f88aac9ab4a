package bits_test

import (
	"math"
	"slices"
	"strconv"
	"strings"
	"testing"

	"longeron/bits"
)

const most = 16

// written is a set as the chapter's words have it: sixteen letters, x where a block is in it, and . where none is; what is beyond these bits is left out.
func written(set int) string {
	digits := strconv.FormatUint(uint64(uint16(set)), 2)
	letters := []byte(strings.Repeat("0", most-len(digits)) + digits)
	slices.Reverse(letters)
	return strings.NewReplacer("0", ".", "1", "x").Replace(string(letters))
}

// first is the written set's blocks from 0 to n - 1.
func first(set, n int) string {
	if n < 0 {
		return ""
	}
	if n > most {
		n = most
	}
	return written(set)[:n]
}

func wantMissing(set, n int) []int {
	var missing []int
	for i, letter := range first(set, n) {
		if letter == '.' {
			missing = append(missing, i)
		}
	}
	return missing
}

// wantRuns cuts the written set where blocks are missing: what is left in between are the runs.
func wantRuns(set, n int) [][2]int {
	var runs [][2]int
	from := 0
	for _, piece := range strings.Split(first(set, n), ".") {
		if piece != "" {
			runs = append(runs, [2]int{from, len(piece)})
		}
		from += len(piece) + 1
	}
	return runs
}

// wantAll sums what the blocks are worth, each twice as much as the one ahead.
func wantAll(n int) int {
	sum, worth := 0, 1
	for i := 0; i < n && i < most; i++ {
		sum += worth
		worth *= 2
	}
	return sum
}

func judgeAll(t *testing.T, n int) {
	t.Helper()
	if got, want := bits.All(n), wantAll(n); got != want {
		t.Errorf("All(%d): %d, want %d", n, got, want)
	}
}

// judgeOne judges the calls that are asked for one block. What is added to a set is worth 2^i, and is added once.
func judgeOne(t *testing.T, set, i int) {
	t.Helper()
	is := i >= 0 && i < most && written(set)[i] == 'x'
	if got := bits.Has(set, i); got != is {
		t.Errorf("Has(%b, %d): %v", set, i, got)
	}
	want := set
	if i >= 0 && i < most && !is {
		worth := 1
		for range i {
			worth *= 2
		}
		want += worth
	}
	if got := bits.With(set, i); got != want {
		t.Errorf("With(%b, %d): %b, want %b", set, i, got, want)
	}
}

func judgeMany(t *testing.T, set int) {
	t.Helper()
	if got, want := bits.Many(set), strings.Count(written(set), "x"); got != want {
		t.Errorf("Many(%b): %d, want %d", set, got, want)
	}
}

// judgeFirsts judges the calls that are asked for the first n blocks.
func judgeFirsts(t *testing.T, set, n int) {
	t.Helper()
	missing := wantMissing(set, n)
	if got := bits.Missing(set, n); !slices.Equal(got, missing) {
		t.Errorf("Missing(%b, %d): %v, want %v", set, n, got, missing)
	}
	no, is := 0, len(missing) > 0
	if is {
		no = missing[0]
	}
	if got, gotIs := bits.First(set, n); got != no || gotIs != is {
		t.Errorf("First(%b, %d): %d, %v; want %d, %v", set, n, got, gotIs, no, is)
	}
	if got, want := bits.Runs(set, n), wantRuns(set, n); !slices.Equal(got, want) {
		t.Errorf("Runs(%b, %d): %v, want %v", set, n, got, want)
	}
}

// numbers are those within 0 to 16, just beyond, far beyond, and where one of fewer bits would be within.
func numbers() []int {
	ns := []int{math.MinInt, math.MinInt + 1, math.MinInt / 2, -1000, -64, -63, math.MaxInt / 2, math.MaxInt - 1, math.MaxInt}
	for n := -20; n <= 70; n++ {
		ns = append(ns, n)
	}
	for _, far := range []int{1 << 7, 1 << 8, 1 << 15, 1 << 16, 1 << 31, 1 << 32, 1 << 62} {
		for n := -2; n <= most+1; n++ {
			ns = append(ns, far+n, n-far)
		}
	}
	slices.Sort(ns)
	return slices.Compact(ns)
}

// sets are some of each kind: small ones, whole ones, ones with a single block or without one, ones with gaps; and with what is beyond the 16 bits, negative ones, the least and the greatest numbers.
func sets() []int {
	small := []int{0, 1, 2, 3, 4, 5, 6, 7, 9, 10, 0b1110111, 0x0ff0, 0x3ff, 0x5555, 0xaaaa, 0x6db6, 0x7fff, 0x8000, 0x8001, 0xc003, 0xfffe, 0xffff}
	for i := range most {
		small = append(small, 1<<i, 0xffff-1<<i)
	}
	beyond := []int{0, 1, 2, 3, 0xffff, 1 << 14, 1<<15 - 1, 1 << 15, 1<<16 - 1, 1 << 16, 1<<46 - 1, 1 << 46, 1<<47 - 1, -1, -2, -1 << 15, -1 << 16, -1 << 46, -1 << 47}
	var all []int
	for _, s := range small {
		for _, b := range beyond {
			all = append(all, b<<most|s)
		}
	}
	all = append(all, math.MinInt, math.MinInt+1, math.MaxInt-1, math.MaxInt, -1, -2, -3)
	slices.Sort(all)
	return slices.Compact(all)
}

// P10.1: the whole set.

func TestAll(t *testing.T) {
	for _, c := range [][2]int{{0, 0}, {1, 1}, {2, 3}, {3, 7}, {10, 1023}, {15, 32767}, {16, 65535}, {17, 65535}, {32, 65535}, {63, 65535}, {64, 65535}, {65, 65535},
		{-1, 0}, {-16, 0}, {1 << 32, 65535}, {-1 << 32, 0}, {math.MinInt, 0}, {math.MinInt + 1, 0}, {math.MaxInt - 1, 65535}, {math.MaxInt, 65535}} {
		if got := bits.All(c[0]); got != c[1] {
			t.Errorf("All(%d): %d, want %d", c[0], got, c[1])
		}
	}
	for _, n := range numbers() {
		judgeAll(t, n)
	}
	for n := -300; n <= 300; n++ {
		judgeAll(t, n)
	}
}

// P10.1: one block.

func TestKnownBlocks(t *testing.T) {
	for _, c := range []struct {
		set, i int
		want   bool
	}{
		{5, 0, true}, {5, 1, false}, {5, 2, true}, {5, 3, false}, {0, 0, false}, {1, 0, true}, {0x8000, 15, true}, {0x7fff, 15, false}, {0x10000, 0, false}, {0x10000, 16, false},
		{-1, 0, true}, {-1, 15, true}, {-1, 16, false}, {-1, 17, false}, {-1, 63, false}, {-1, 64, false}, {-1, -1, false}, {-2, 0, false}, {-2, 1, true},
		{math.MinInt, 0, false}, {math.MinInt, 15, false}, {math.MinInt, 63, false}, {math.MaxInt, 15, true}, {math.MaxInt, 16, false}, {-1, math.MinInt, false}, {-1, math.MaxInt, false},
	} {
		if got := bits.Has(c.set, c.i); got != c.want {
			t.Errorf("Has(%b, %d): %v", c.set, c.i, got)
		}
	}
	for _, c := range [][3]int{
		{0, 0, 1}, {0, 15, 32768}, {0, 16, 0}, {0, -1, 0}, {5, 1, 7}, {5, 0, 5}, {5, 2, 5}, {5, 3, 13}, {5, 16, 5}, {5, -1, 5}, {5, 63, 5}, {5, 64, 5}, {5, math.MinInt, 5}, {5, math.MaxInt, 5},
		{0x10000, 0, 0x10001}, {0x10000, 16, 0x10000}, {0x20000, 16, 0x20000}, {-1, 3, -1}, {-2, 0, -1}, {-2, 1, -2}, {-65536, 15, -32768}, {-65536, 16, -65536},
		{math.MinInt, 0, math.MinInt + 1}, {math.MinInt, 63, math.MinInt}, {math.MaxInt, 0, math.MaxInt}, {math.MaxInt - 1, 0, math.MaxInt},
	} {
		if got := bits.With(c[0], c[1]); got != c[2] {
			t.Errorf("With(%b, %d): %b, want %b", c[0], c[1], got, c[2])
		}
	}
}

func TestEachSetAndBlock(t *testing.T) {
	for set := range 1 << most {
		for i := -1; i <= most; i++ {
			judgeOne(t, set, i)
		}
	}
}

func TestBlocksOfWideSets(t *testing.T) {
	ns := numbers()
	for _, set := range sets() {
		for _, i := range ns {
			judgeOne(t, set, i)
		}
	}
}

// With leaves all other bits as they were, those beyond the 16 ones, too.
func TestWithLeavesTheOtherBits(t *testing.T) {
	for _, set := range sets() {
		for i := range most {
			got := bits.With(set, i)
			if turned := got ^ set; turned&^(1<<i) != 0 || !bits.Has(got, i) {
				t.Errorf("With(%b, %d): %b", set, i, got)
			}
			if again := bits.With(got, i); again != got {
				t.Errorf("With(%b, %d): %b", got, i, again)
			}
		}
	}
}

// P10.1: how many.

func TestKnownMany(t *testing.T) {
	for _, c := range [][2]int{{0, 0}, {1, 1}, {5, 2}, {11, 3}, {0x7fff, 15}, {0x8000, 1}, {0xffff, 16}, {0x10000, 0}, {0x10003, 2}, {0x1ffff, 16}, {-1, 16}, {-2, 15}, {-32768, 1}, {-65536, 0},
		{math.MinInt, 0}, {math.MinInt + 1, 1}, {math.MaxInt - 1, 15}, {math.MaxInt, 16}} {
		if got := bits.Many(c[0]); got != c[1] {
			t.Errorf("Many(%b): %d, want %d", c[0], got, c[1])
		}
	}
}

func TestManyOfEachSet(t *testing.T) {
	for set := range 1 << most {
		judgeMany(t, set)
		judgeMany(t, -set)
		judgeMany(t, set|1<<20|math.MinInt)
	}
	for _, set := range sets() {
		judgeMany(t, set)
	}
}

// P10.2: the first n blocks.

func TestExample(t *testing.T) {
	if got := bits.Runs(bits.With(bits.With(bits.With(0, 3), 1), 0), 5); !slices.Equal(got, [][2]int{{0, 2}, {3, 1}}) {
		t.Errorf("%v", got)
	}
}

func TestKnownMissing(t *testing.T) {
	for _, c := range []struct {
		set, n int
		want   []int
	}{
		{5, 4, []int{1, 3}}, {5, 3, []int{1}}, {5, 1, nil}, {5, 0, nil}, {5, -1, nil}, {0, 1, []int{0}}, {0, 0, nil}, {3, 2, nil}, {3, 3, []int{2}},
		{0x7fff, 15, nil}, {0x7fff, 16, []int{15}}, {0x7fff, 17, []int{15}}, {0x7fff, math.MaxInt, []int{15}}, {0xffff, 16, nil}, {0xffff, 17, nil}, {0xffff, 64, nil}, {0xffff, math.MaxInt, nil},
		{0x10000, 2, []int{0, 1}}, {-1, 16, nil}, {-1, 17, nil}, {-2, 16, []int{0}}, {-2, 0, nil}, {math.MinInt, 3, []int{0, 1, 2}}, {math.MaxInt, 16, nil}, {0, math.MinInt, nil},
		{0, 16, []int{0, 1, 2, 3, 4, 5, 6, 7, 8, 9, 10, 11, 12, 13, 14, 15}}, {math.MinInt, math.MaxInt, []int{0, 1, 2, 3, 4, 5, 6, 7, 8, 9, 10, 11, 12, 13, 14, 15}},
	} {
		if got := bits.Missing(c.set, c.n); !slices.Equal(got, c.want) {
			t.Errorf("Missing(%b, %d): %v, want %v", c.set, c.n, got, c.want)
		}
	}
}

func TestKnownFirst(t *testing.T) {
	for _, c := range []struct {
		set, n, want int
		is           bool
	}{
		{0, 1, 0, true}, {0, 0, 0, false}, {0, -1, 0, false}, {0, 16, 0, true}, {1, 1, 0, false}, {1, 2, 1, true}, {3, 2, 0, false}, {5, 3, 1, true}, {5, 2, 1, true}, {5, 1, 0, false}, {7, 5, 3, true},
		{0x7fff, 15, 0, false}, {0x7fff, 16, 15, true}, {0x7fff, math.MaxInt, 15, true}, {0xffff, 16, 0, false}, {0xffff, 17, 0, false}, {0xffff, math.MaxInt, 0, false}, {0xfffe, 16, 0, true},
		{0x10001, 3, 1, true}, {-1, 16, 0, false}, {-1, 17, 0, false}, {-2, 1, 0, true}, {-32769, 16, 15, true}, {math.MinInt, 16, 0, true}, {math.MaxInt, 16, 0, false}, {0, math.MinInt, 0, false},
	} {
		if got, is := bits.First(c.set, c.n); got != c.want || is != c.is {
			t.Errorf("First(%b, %d): %d, %v; want %d, %v", c.set, c.n, got, is, c.want, c.is)
		}
	}
}

func TestKnownRuns(t *testing.T) {
	for _, c := range []struct {
		set, n int
		want   [][2]int
	}{
		{0b01011, 5, [][2]int{{0, 2}, {3, 1}}}, {0b01011, 4, [][2]int{{0, 2}, {3, 1}}}, {0b01011, 3, [][2]int{{0, 2}}}, {0b01011, 2, [][2]int{{0, 2}}}, {0b01011, 1, [][2]int{{0, 1}}}, {0b01011, 0, nil}, {0b01011, -1, nil},
		{0, 16, nil}, {0, 0, nil}, {1, 1, [][2]int{{0, 1}}}, {2, 2, [][2]int{{1, 1}}}, {0b1110111, 7, [][2]int{{0, 3}, {4, 3}}}, {0b1110111, 6, [][2]int{{0, 3}, {4, 2}}},
		{0x8000, 15, nil}, {0x8000, 16, [][2]int{{15, 1}}}, {0x8000, 17, [][2]int{{15, 1}}}, {0xc003, 16, [][2]int{{0, 2}, {14, 2}}}, {0xffff, 16, [][2]int{{0, 16}}}, {0xffff, 15, [][2]int{{0, 15}}},
		{0xffff, math.MaxInt, [][2]int{{0, 16}}}, {-1, 16, [][2]int{{0, 16}}}, {-1, 17, [][2]int{{0, 16}}}, {-1, 64, [][2]int{{0, 16}}}, {-1, math.MaxInt, [][2]int{{0, 16}}}, {-1, 0, nil}, {-1, math.MinInt, nil},
		{-2, 3, [][2]int{{1, 2}}}, {0x18000, 17, [][2]int{{15, 1}}}, {0x10000, 17, nil}, {math.MinInt, 64, nil}, {math.MaxInt, 16, [][2]int{{0, 16}}}, {math.MaxInt - 1, 16, [][2]int{{1, 15}}},
		{0x5555, 16, [][2]int{{0, 1}, {2, 1}, {4, 1}, {6, 1}, {8, 1}, {10, 1}, {12, 1}, {14, 1}}}, {0xaaaa, 16, [][2]int{{1, 1}, {3, 1}, {5, 1}, {7, 1}, {9, 1}, {11, 1}, {13, 1}, {15, 1}}},
	} {
		if got := bits.Runs(c.set, c.n); !slices.Equal(got, c.want) {
			t.Errorf("Runs(%b, %d): %v, want %v", c.set, c.n, got, c.want)
		}
	}
}

// Every set of few blocks, and each number of blocks.
func TestEachSmallSet(t *testing.T) {
	for set := range 1 << 11 {
		for n := -1; n <= most+1; n++ {
			judgeFirsts(t, set, n)
		}
	}
}

func TestEachSetOfAll(t *testing.T) {
	for set := range 1 << most {
		judgeFirsts(t, set, most)
	}
}

func TestFirstsOfWideSets(t *testing.T) {
	ns := numbers()
	for _, set := range sets() {
		for _, n := range ns {
			judgeFirsts(t, set, n)
		}
	}
}

// What is not among the 16 bits changes no answer but With's, and what is behind the first n none of theirs.
func TestBeyondDoesNotMatter(t *testing.T) {
	for _, set := range sets() {
		low := set & 0xffff
		if bits.Many(set) != bits.Many(low) {
			t.Errorf("Many(%b) and Many(%b) aren't one", set, low)
		}
		for n := range most + 1 {
			for _, other := range []int{low, set & bits.All(n), set | ^bits.All(n), set ^ ^bits.All(n)} {
				if got, want := bits.Missing(other, n), bits.Missing(set, n); !slices.Equal(got, want) {
					t.Errorf("Missing(%b, %d): %v, and of %b %v", other, n, got, set, want)
				}
				if got, want := bits.Runs(other, n), bits.Runs(set, n); !slices.Equal(got, want) {
					t.Errorf("Runs(%b, %d): %v, and of %b %v", other, n, got, set, want)
				}
				got, gotIs := bits.First(other, n)
				if want, is := bits.First(set, n); got != want || gotIs != is {
					t.Errorf("First(%b, %d): %d, %v, and of %b %d, %v", other, n, got, gotIs, set, want, is)
				}
			}
		}
	}
}

// Runs rise, none is empty, none touches the next one, and none goes beyond the first n; what they tell and what is missing are together all of them, and none twice.
func TestRunsAreApart(t *testing.T) {
	for _, set := range sets() {
		for n := range most + 1 {
			end, seen := -1, 0
			for _, run := range bits.Runs(set, n) {
				if run[0] <= end || run[1] < 1 || run[0]+run[1] > n {
					t.Errorf("Runs(%b, %d): %v behind one that ends at %d", set, n, run, end)
				}
				end = run[0] + run[1]
				for i := run[0]; i < end; i++ {
					seen = bits.With(seen, i)
				}
			}
			if seen != set&bits.All(n) {
				t.Errorf("Runs(%b, %d) are %b", set, n, seen)
			}
			for _, i := range bits.Missing(set, n) {
				if bits.Has(seen, i) {
					t.Errorf("%d of %b, %d: there, and missing", i, set, n)
				}
				seen = bits.With(seen, i)
			}
			if seen != bits.All(n) {
				t.Errorf("of %b, %d: %b in all", set, n, seen)
			}
		}
	}
}

// A set grows block by block, in whichever order, to the whole one.
func TestSetGrowsWhole(t *testing.T) {
	for n := 1; n <= most; n++ {
		for _, by := range []int{1, 3, 5, 7, 11, 13, 17} {
			set := 0
			for k := range n * by { // each block in time, and some again
				i := k * by % n
				had := bits.Has(set, i)
				before := bits.Many(set)
				set = bits.With(set, i)
				if after := bits.Many(set); !had && after != before+1 || had && after != before {
					t.Errorf("block %d of %d: %d, then %d", i, n, before, after)
				}
			}
			for i := n - 1; i >= 0; i-- {
				set = bits.With(set, i)
			}
			if no, is := bits.First(set, n); set != bits.All(n) || is || no != 0 || len(bits.Missing(set, n)) != 0 {
				t.Errorf("%d blocks: %b, and %d, %v", n, set, no, is)
			}
		}
	}
}

// R1 and R2: whatever they are given, the calls end; beside a false stands nothing.
func TestWildArguments(t *testing.T) {
	state := uint64(0x9e3779b97f4a7c15)
	draw := func() int {
		state ^= state << 13
		state ^= state >> 7
		state ^= state << 17
		return int(state) >> (state % 64)
	}
	for range 20000 {
		set, n := draw(), draw()
		judgeAll(t, n)
		judgeOne(t, set, n)
		judgeMany(t, set)
		judgeFirsts(t, set, n)
		judgeOne(t, set, n&15)
		judgeFirsts(t, set, n&31)
	}
}

// R3: an empty list is told as one, whatever was asked.
func TestEmptyLists(t *testing.T) {
	for _, n := range []int{math.MinInt, -1, 0} {
		for _, set := range sets() {
			if missing, runs := bits.Missing(set, n), bits.Runs(set, n); len(missing) != 0 || len(runs) != 0 {
				t.Errorf("%b, %d: %v, %v", set, n, missing, runs)
			}
		}
	}
}

// R4: what is told is memory of its own, spare room included: what is written into it changes no answer, an earlier or a later one.
func TestMemoryOfItsOwn(t *testing.T) {
	for _, set := range sets() {
		for _, n := range []int{0, 1, 5, 10, 15, 16, 17} {
			missing, runs := bits.Missing(set, n), bits.Runs(set, n)
			for _, spoilt := range [][]int{bits.Missing(set, n), bits.Missing(^set, n)} {
				spoilt = spoilt[:cap(spoilt)]
				for i := range spoilt {
					spoilt[i] = -7
				}
			}
			for _, spoilt := range [][][2]int{bits.Runs(set, n), bits.Runs(^set, n)} {
				spoilt = spoilt[:cap(spoilt)]
				for i := range spoilt {
					spoilt[i] = [2]int{-7, -7}
				}
			}
			if !slices.Equal(missing, wantMissing(set, n)) || !slices.Equal(runs, wantRuns(set, n)) {
				t.Errorf("%b, %d: the earlier answers are %v, %v", set, n, missing, runs)
			}
			judgeFirsts(t, set, n)
			judgeFirsts(t, ^set, n)
		}
	}
}

// told is what all calls tell of these arguments, written down.
func told(set, n int) string {
	var b strings.Builder
	number := func(i int) {
		b.WriteString(strconv.Itoa(i))
		b.WriteByte(' ')
	}
	number(bits.All(n))
	b.WriteString(strconv.FormatBool(bits.Has(set, n)) + " ")
	number(bits.With(set, n))
	number(bits.Many(set))
	for _, i := range bits.Missing(set, n) {
		number(i)
	}
	no, is := bits.First(set, n)
	number(no)
	b.WriteString(strconv.FormatBool(is) + " ")
	for _, run := range bits.Runs(set, n) {
		number(run[0])
		number(run[1])
	}
	return b.String()
}

// R5: a call answers the same when it is made again, whatever was asked in between, in this order or in another one.
func TestAsksLeaveNothing(t *testing.T) {
	type asked struct{ set, n int }
	var all []asked
	for _, set := range sets() {
		for _, n := range []int{math.MinInt, -1, 0, 1, 9, 15, 16, 17, math.MaxInt} {
			all = append(all, asked{set, n})
		}
	}
	first := make([]string, len(all))
	for k, q := range all {
		first[k] = told(q.set, q.n)
		if again := told(q.set, q.n); again != first[k] {
			t.Errorf("%v: %s, then %s", q, first[k], again)
		}
	}
	for k, q := range slices.Backward(all) {
		if again := told(q.set, q.n); again != first[k] {
			t.Errorf("%v: %s, then, behind the others, %s", q, first[k], again)
		}
	}
}

// R5: several that ask at the same time are told the same.
func TestAskedAtTheSameTime(t *testing.T) {
	const askers = 4
	all := sets()
	want := make([]string, len(all))
	for k, set := range all {
		want[k] = told(set, 10)
	}
	answers := make(chan []string)
	for range askers {
		go func() {
			var got []string
			for _, set := range all {
				got = append(got, told(set, 10))
			}
			answers <- got
		}()
	}
	for range askers {
		for k, got := range <-answers {
			if got != want[k] {
				t.Errorf("%b: %s, want %s", all[k], got, want[k])
			}
		}
	}
}

func FuzzBits(f *testing.F) {
	f.Add(0b01011, 5)
	f.Add(5, 4)
	f.Add(-1, 16)
	f.Add(0x10000, 17)
	f.Add(math.MaxInt, math.MinInt)
	f.Add(math.MinInt, math.MaxInt)
	f.Fuzz(func(t *testing.T, set, n int) {
		judgeAll(t, n)
		judgeOne(t, set, n)
		judgeMany(t, set)
		judgeFirsts(t, set, n)
	})
}
