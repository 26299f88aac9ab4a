package table_test

import (
	"bytes"
	"math"
	"slices"
	"testing"

	"longeron/api"
	"longeron/table"
)

func part(mem, fuel, hard int) api.Part { return api.Part{Mem: mem, Fuel: fuel, Hard: hard} }

func window(part, from, long int) api.Window { return api.Window{Part: part, From: from, Long: long} }

func channel(from, to, depth int) api.Channel { return api.Channel{From: from, To: to, Depth: depth} }

// example is the chapter's.
func example() api.Table {
	return api.Table{Frame: 10, Trial: 2, Parts: []api.Part{{Mem: 4, Fuel: 8}, {Mem: 4, Fuel: 8, Hard: 300}},
		Windows: []api.Window{window(0, 0, 4), window(1, 5, 5)}}
}

// least has of everything as little as may be.
func least() api.Table {
	return api.Table{Frame: 1, Trial: 1, Parts: []api.Part{{Mem: 1, Fuel: 1}, {Mem: 1, Fuel: 1}},
		Windows: []api.Window{window(0, 0, 1)}}
}

// full has of everything as much as may be: its windows fill the frame.
func full() api.Table {
	x := api.Table{Frame: 64, Trial: 7, Channels: []api.Channel{channel(0, 1, 4), channel(1, 2, 4), channel(2, 3, 4), channel(3, 0, 4)}}
	for range 4 {
		x.Parts = append(x.Parts, part(16, 32, 65535))
	}
	for i := range 8 {
		x.Windows = append(x.Windows, window((i+3)%4, 8*i, 8))
	}
	return x
}

// gaps has windows with ticks of nobody ahead of them, between them and behind them.
func gaps() api.Table {
	return api.Table{Frame: 20, Trial: 3, Parts: []api.Part{part(2, 8, 1), part(4, 9, 0x1234), part(16, 32, 65535)},
		Windows:  []api.Window{window(1, 2, 2), window(0, 4, 3), window(1, 9, 1), window(2, 11, 4), window(1, 15, 2)},
		Channels: []api.Channel{channel(2, 1, 0), channel(1, 0, 3)}}
}

// joined has four partitions and these channels, each from the first of its numbers to the second.
func joined(channels ...[2]int) api.Table {
	x := full()
	x.Channels = nil
	for i, c := range channels {
		x.Channels = append(x.Channels, channel(c[0], c[1], i%5))
	}
	return x
}

// windowed has so many partitions, a frame of so many ticks, and these windows.
func windowed(parts, frame int, windows ...api.Window) api.Table {
	x := least()
	x.Frame, x.Parts, x.Windows = frame, slices.Repeat(x.Parts[:1], parts), windows
	return x
}

func within(least, n, most int) bool { return n >= least && n <= most }

// owners tells, as the chapter's words have it, whose window each tick of the frame is in: -1 of nobody. Windows that aren't right have none.
func owners(x api.Table) (windows []int, right bool) {
	windows = slices.Repeat([]int{-1}, x.Frame)
	maintenance := false
	for i, w := range x.Windows {
		if !within(0, w.Part, len(x.Parts)-1) || !within(0, w.From, x.Frame-1) || !within(1, w.Long, x.Frame) {
			return nil, false
		}
		if i > 0 && w.From < x.Windows[i-1].From {
			return nil, false
		}
		for tick := w.From; tick < w.From+w.Long; tick++ {
			if tick >= x.Frame || windows[tick] != -1 {
				return nil, false
			}
			windows[tick] = i
		}
		maintenance = maintenance || w.Part == 0
	}
	return windows, maintenance
}

// isRight tells whether a table is right, as the chapter's words have it.
func isRight(x api.Table) bool {
	if !within(1, x.Frame, 64) || !within(1, x.Trial, 7) || !within(2, len(x.Parts), 4) || len(x.Windows) > 8 || len(x.Channels) > 4 {
		return false
	}
	for _, p := range x.Parts {
		if !within(1, p.Mem, 16) || !within(1, p.Fuel, 32) || !within(0, p.Hard, 65535) {
			return false
		}
	}
	for _, c := range x.Channels {
		if !within(0, c.From, len(x.Parts)-1) || !within(0, c.To, len(x.Parts)-1) || c.From == c.To || !within(0, c.Depth, 4) {
			return false
		}
	}
	_, right := owners(x)
	return right
}

// bytesOf tells a table's bytes, right or not; false, if they can't tell it.
func bytesOf(x api.Table) ([]byte, bool) {
	ok := true
	var b []byte
	put := func(ns ...int) {
		for _, n := range ns {
			ok = ok && within(0, n, 255)
			b = append(b, byte(n))
		}
	}
	put(x.Frame, x.Trial, len(x.Parts), len(x.Windows), len(x.Channels))
	for _, p := range x.Parts {
		put(p.Mem, p.Fuel, p.Hard>>8, p.Hard&255)
	}
	for _, w := range x.Windows {
		put(w.Part, w.From, w.Long)
	}
	for _, c := range x.Channels {
		put(c.From, c.To, c.Depth)
	}
	return b, ok
}

// walks tells whether there is a path of at most so many channels.
func walks(x api.Table, at, to, channels int) bool {
	if at == to {
		return true
	}
	for _, c := range x.Channels {
		if channels > 0 && c.From == at && walks(x, c.To, to, channels-1) {
			return true
		}
	}
	return false
}

func equal(x, y api.Table) bool {
	return x.Frame == y.Frame && x.Trial == y.Trial && slices.Equal(x.Parts, y.Parts) &&
		slices.Equal(x.Windows, y.Windows) && slices.Equal(x.Channels, y.Channels)
}

// copied is x in memory of its own.
func copied(x api.Table) api.Table {
	x.Parts, x.Windows, x.Channels = slices.Clone(x.Parts), slices.Clone(x.Windows), slices.Clone(x.Channels)
	return x
}

// places are positions, and partitions, that there are in some table, and that there are in none.
var places = []int{math.MinInt, math.MinInt + 1, -1 << 32, -256, -65, -2, -1, 5, 63, 64, 65, 255, 256, 257, 1 << 16, 1 << 32, 1<<32 + 1, math.MaxInt - 1, math.MaxInt}

// judge says whether each call takes x for what it is.
func judge(t *testing.T, what string, x api.Table, want bool) {
	t.Helper()
	if isRight(x) != want {
		t.Fatalf("%s: the test's own words don't make it %v", what, want)
	}
	if got := table.Right(x); got != want {
		t.Errorf("%s: Right %v", what, got)
	}
	if want {
		judgeRight(t, what, x)
	} else {
		judgeWrong(t, what, x)
	}
}

func judgeWrong(t *testing.T, what string, x api.Table) {
	t.Helper()
	if b, e := table.Put(x); len(b) != 0 || e != api.ErrTable {
		t.Errorf("%s: Put %x, %v", what, b, e)
	}
	if b, ok := bytesOf(x); ok {
		if y, e := table.Get(b); !equal(y, api.Table{}) || e != api.ErrTable {
			t.Errorf("%s: Get %v, %v", what, y, e)
		}
	}
	for n := -2; n <= 65; n++ {
		if w := table.Window(x, n); w != -1 {
			t.Errorf("%s: Window(%d) %d", what, n, w)
		}
	}
	for n := -2; n <= 5; n++ {
		if l, s := table.Reach(x, n), table.Share(x, n); len(l) != 0 || s != 0 {
			t.Errorf("%s: of %d Reach %v, Share %d", what, n, l, s)
		}
	}
}

func judgeRight(t *testing.T, what string, x api.Table) {
	t.Helper()
	want, _ := bytesOf(x)
	b, e := table.Put(x)
	if !bytes.Equal(b, want) || e != api.OK {
		t.Errorf("%s: Put %x, %v; want %x", what, b, e, want)
	}
	if y, e := table.Get(b); !equal(x, y) || e != api.OK {
		t.Errorf("%s: Get %v, %v; want %v", what, y, e, x)
	}
	windows, _ := owners(x)
	share := map[int]int{}
	for pos, want := range windows {
		if w := table.Window(x, pos); w != want {
			t.Errorf("%s: Window(%d) %d, want %d", what, pos, w, want)
		}
		if want >= 0 {
			share[x.Windows[want].Part]++
		}
	}
	for _, pos := range append(places, x.Frame, x.Frame+1) {
		if w := table.Window(x, pos); w != -1 && !within(0, pos, x.Frame-1) {
			t.Errorf("%s: Window(%d) %d", what, pos, w)
		}
	}
	for _, p := range append(places, 0, 1, 2, 3, 4) {
		if s := table.Share(x, p); s != share[p] {
			t.Errorf("%s: Share(%d) %d, want %d", what, p, s, share[p])
		}
		var want []int
		for to := range x.Parts {
			if within(0, p, len(x.Parts)-1) && walks(x, p, to, len(x.Parts)) {
				want = append(want, to)
			}
		}
		if l := table.Reach(x, p); !slices.Equal(l, want) {
			t.Errorf("%s: Reach(%d) %v, want %v", what, p, l, want)
		}
	}
}

// P5.1: what is right.

func TestOrdinary(t *testing.T) {
	judge(t, "example", example(), true)
	judge(t, "least", least(), true)
	judge(t, "full", full(), true)
	judge(t, "gaps", gaps(), true)
	judge(t, "nothing", api.Table{}, false)
}

// Each number by itself: just within and just beyond its bounds, far beyond them, and where one of fewer bits would be within.
func TestBounds(t *testing.T) {
	for _, c := range []struct {
		what        string
		least, most int
		base        func() api.Table
		field       func(x *api.Table) *int
	}{
		{"Frame", 1, 64, least, func(x *api.Table) *int { return &x.Frame }},
		{"Trial", 1, 7, least, func(x *api.Table) *int { return &x.Trial }},
		{"Frame, of windows up to 17", 17, 64, gaps, func(x *api.Table) *int { return &x.Frame }},
		{"Frame, of windows up to 64", 64, 64, full, func(x *api.Table) *int { return &x.Frame }},
		{"Mem of the first", 1, 16, gaps, func(x *api.Table) *int { return &x.Parts[0].Mem }},
		{"Mem of the last", 1, 16, full, func(x *api.Table) *int { return &x.Parts[3].Mem }},
		{"Fuel of the first", 1, 32, gaps, func(x *api.Table) *int { return &x.Parts[0].Fuel }},
		{"Fuel of the last", 1, 32, full, func(x *api.Table) *int { return &x.Parts[3].Fuel }},
		{"Hard of the first", 0, 65535, gaps, func(x *api.Table) *int { return &x.Parts[0].Hard }},
		{"Hard of the last", 0, 65535, full, func(x *api.Table) *int { return &x.Parts[3].Hard }},
		{"Part of the first", 0, 2, gaps, func(x *api.Table) *int { return &x.Windows[0].Part }},
		{"Part of the last, of 3", 0, 2, gaps, func(x *api.Table) *int { return &x.Windows[4].Part }},
		{"Part, of 2", 0, 1, example, func(x *api.Table) *int { return &x.Windows[1].Part }},
		{"Part, of 4", 0, 3, full, func(x *api.Table) *int { return &x.Windows[7].Part }},
		{"From of the first", 0, 2, gaps, func(x *api.Table) *int { return &x.Windows[0].From }},
		{"From between, touched ahead", 4, 6, gaps, func(x *api.Table) *int { return &x.Windows[1].From }},
		{"From between", 7, 10, gaps, func(x *api.Table) *int { return &x.Windows[2].From }},
		{"From between, touched behind", 10, 11, gaps, func(x *api.Table) *int { return &x.Windows[3].From }},
		{"From of the last", 15, 18, gaps, func(x *api.Table) *int { return &x.Windows[4].From }},
		{"From of the last, of a full frame", 56, 56, full, func(x *api.Table) *int { return &x.Windows[7].From }},
		{"From of the only one", 0, 0, least, func(x *api.Table) *int { return &x.Windows[0].From }},
		{"Long of the first", 1, 2, gaps, func(x *api.Table) *int { return &x.Windows[0].Long }},
		{"Long between", 1, 5, gaps, func(x *api.Table) *int { return &x.Windows[1].Long }},
		{"Long of the last", 1, 5, gaps, func(x *api.Table) *int { return &x.Windows[4].Long }},
		{"Long of the only one", 1, 1, least, func(x *api.Table) *int { return &x.Windows[0].Long }},
		{"Depth of the first", 0, 4, gaps, func(x *api.Table) *int { return &x.Channels[0].Depth }},
		{"Depth of the last", 0, 4, full, func(x *api.Table) *int { return &x.Channels[3].Depth }},
	} {
		values := append([]int{c.least - 1, c.least, c.least + 1, c.most - 1, c.most, c.most + 1, -c.most, -c.least, 0}, places...)
		for _, bits := range []int{8, 16, 32} {
			values = append(values, c.least+1<<bits, c.most+1<<bits, c.least-1<<bits)
		}
		for _, n := range values {
			x := c.base()
			*c.field(&x) = n
			judge(t, c.what, x, within(c.least, n, c.most))
		}
	}
}

func TestManyParts(t *testing.T) {
	for _, n := range []int{0, 1, 2, 3, 4, 5, 6, 8, 255, 256, 257, 258, 259, 260, 65538} {
		judge(t, "parts", windowed(n, 1, window(0, 0, 1)), 2 <= n && n <= 4)
	}
}

func TestManyWindows(t *testing.T) {
	for _, n := range []int{0, 1, 2, 7, 8, 9, 10, 16, 64, 255, 256, 257, 260, 65537} {
		x := windowed(2, 64)
		for i := range n {
			x.Windows = append(x.Windows, window(i%2, i, 1))
		}
		judge(t, "windows", x, 1 <= n && n <= 8)
	}
}

func TestManyChannels(t *testing.T) {
	for _, n := range []int{0, 1, 2, 3, 4, 5, 6, 8, 255, 256, 257, 260, 65536} {
		x := full()
		x.Channels = slices.Repeat(x.Channels[1:2], n)
		judge(t, "channels", x, n <= 4)
	}
}

func TestChannelEnds(t *testing.T) {
	values := append([]int{0, 1, 2, 3, 4, 1<<8 + 1, 1<<16 + 1}, places...)
	for parts := 2; parts <= 4; parts++ {
		for _, a := range values {
			for _, b := range values {
				want := within(0, a, parts-1) && within(0, b, parts-1) && a != b
				x := windowed(parts, 1, window(0, 0, 1))
				x.Channels = []api.Channel{channel(a, b, 0)}
				judge(t, "one channel", x, want)
				x.Channels = []api.Channel{channel(0, 1, 0), channel(1, 0, 4), channel(0, 1, 0), channel(a, b, 0)}
				judge(t, "the last channel", x, want)
			}
		}
	}
}

func TestWindows(t *testing.T) {
	for _, c := range []struct {
		what string
		want bool
		x    api.Table
	}{
		{"one that fills the frame", true, windowed(2, 64, window(0, 0, 64))},
		{"one that ends a tick beyond it", false, windowed(2, 64, window(0, 0, 65))},
		{"the last tick", true, windowed(2, 64, window(0, 63, 1))},
		{"the last tick and one beyond it", false, windowed(2, 64, window(0, 63, 2))},
		{"behind the frame", false, windowed(2, 63, window(0, 63, 1))},
		{"far behind the frame", false, windowed(2, 10, window(0, 0, 1), window(1, 40, 1))},
		{"two that touch", true, windowed(2, 10, window(0, 0, 5), window(1, 5, 5))},
		{"two that overlap by a tick", false, windowed(2, 10, window(0, 0, 5), window(1, 4, 5))},
		{"two of one partition that overlap", false, windowed(2, 10, window(0, 0, 5), window(0, 4, 5))},
		{"two of one partition that touch", true, windowed(2, 10, window(0, 0, 5), window(0, 5, 5))},
		{"one within another one", false, windowed(2, 10, window(0, 0, 8), window(1, 2, 2))},
		{"one twice", false, windowed(2, 10, window(0, 0, 2), window(0, 0, 2))},
		{"out of order", false, windowed(2, 10, window(0, 5, 5), window(1, 0, 5))},
		{"the last two out of order", false, windowed(2, 10, window(0, 0, 1), window(1, 5, 1), window(1, 3, 1))},
		{"the third overlaps the first", false, windowed(2, 20, window(0, 0, 9), window(1, 9, 1), window(1, 8, 1))},
		{"none of partition 0", false, windowed(2, 10, window(1, 0, 5), window(1, 5, 5))},
		{"none of partition 0, of four", false, windowed(4, 10, window(1, 0, 1), window(2, 1, 1), window(3, 2, 1))},
		{"none at all", false, windowed(2, 10)},
		{"partition 0 last", true, windowed(2, 10, window(1, 0, 5), window(0, 5, 5))},
		{"partition 0 between", true, windowed(3, 10, window(1, 0, 2), window(0, 5, 1), window(2, 8, 1))},
		{"partition 0 alone", true, windowed(4, 10, window(0, 3, 3))},
		{"an empty one", false, windowed(2, 10, window(0, 0, 5), window(1, 5, 0))},
		{"an empty one first", false, windowed(2, 10, window(1, 0, 0), window(0, 0, 5))},
		{"one that goes back", false, windowed(2, 10, window(0, 5, 5), window(1, 10, -1))},
		{"one ahead of the frame", false, windowed(2, 10, window(1, -3, 2), window(0, 0, 5))},
		{"one from ahead of the frame", false, windowed(2, 10, window(0, -1, 5), window(1, 5, 5))},
	} {
		judge(t, c.what, c.x, c.want)
	}
}

// Each two windows of a short frame, with each choice of partitions.
func TestEachTwoWindows(t *testing.T) {
	var each []api.Window
	for part := -1; part <= 2; part++ {
		for from := -1; from <= 3; from++ {
			for long := -1; long <= 4; long++ {
				each = append(each, window(part, from, long))
			}
		}
	}
	for _, a := range each {
		for _, b := range each {
			x := windowed(2, 3, a, b)
			if got, want := table.Right(x), isRight(x); got != want {
				t.Errorf("%v: Right %v", x.Windows, got)
			}
		}
	}
}

// Numbers that are too great for their sum, or their difference, look like a right table's there.
func TestNoSumIsTooGreat(t *testing.T) {
	wild := []int{math.MinInt, math.MinInt + 1, math.MinInt + 9, math.MinInt / 2, -1, 0, 1, 9, math.MaxInt / 2, math.MaxInt/2 + 1, math.MaxInt - 9, math.MaxInt - 1, math.MaxInt}
	for _, a := range wild {
		for _, b := range wild {
			x := windowed(2, 10, window(0, 0, 5), window(1, a, b))
			judge(t, "the last window", x, a == 9 && b == 1)
			x = windowed(2, 10, window(1, a, b), window(0, 9, 1))
			judge(t, "the first window", x, a == 0 && (b == 1 || b == 9) || a == 1 && b == 1)
			x.Frame = a
			x.Windows = []api.Window{window(0, b, 1)}
			judge(t, "the frame", x, a == 9 && (b == 0 || b == 1) || a == 1 && b == 0)
			x.Windows = []api.Window{window(0, 0, b)}
			judge(t, "the whole frame", x, a == 9 && (b == 1 || b == 9) || a == 1 && b == 1)
		}
	}
}

// P5.1: bytes.

func TestBytes(t *testing.T) {
	for _, c := range []struct {
		x    api.Table
		want string
	}{
		{example(), "\x0a\x02\x02\x02\x00" + "\x04\x08\x00\x00" + "\x04\x08\x01\x2c" + "\x00\x00\x04" + "\x01\x05\x05"},
		{least(), "\x01\x01\x02\x01\x00" + "\x01\x01\x00\x00" + "\x01\x01\x00\x00" + "\x00\x00\x01"},
		{gaps(), "\x14\x03\x03\x05\x02" + "\x02\x08\x00\x01" + "\x04\x09\x12\x34" + "\x10\x20\xff\xff" +
			"\x01\x02\x02" + "\x00\x04\x03" + "\x01\x09\x01" + "\x02\x0b\x04" + "\x01\x0f\x02" + "\x02\x01\x00" + "\x01\x00\x03"},
	} {
		if b, e := table.Put(c.x); string(b) != c.want || e != api.OK {
			t.Errorf("Put: %x, %v; want %x", b, e, c.want)
		}
		if y, e := table.Get([]byte(c.want)); !equal(y, c.x) || e != api.OK {
			t.Errorf("Get: %v, %v; want %v", y, e, c.x)
		}
	}
}

func TestGetOfBytesThatEnd(t *testing.T) {
	wrong := gaps()
	wrong.Frame, wrong.Trial, wrong.Windows[0].Long, wrong.Parts[0].Mem = 0, 0, 0, 0
	for _, x := range []api.Table{example(), least(), full(), gaps(), wrong} {
		b, _ := bytesOf(x)
		for n := range b {
			if y, e := table.Get(b[:n]); !equal(y, api.Table{}) || e != api.ErrEnd {
				t.Errorf("%d of %d bytes: %v, %v", n, len(b), y, e)
			}
			if y, e := table.Get(slices.Clone(b[:n])); !equal(y, api.Table{}) || e != api.ErrEnd {
				t.Errorf("%d of %d bytes, nothing behind: %v, %v", n, len(b), y, e)
			}
		}
	}
	if y, e := table.Get(nil); !equal(y, api.Table{}) || e != api.ErrEnd {
		t.Errorf("no bytes: %v, %v", y, e)
	}
}

func TestGetOfBytesWithMoreBehind(t *testing.T) {
	wrong := example()
	wrong.Frame = 65
	for _, x := range []api.Table{example(), least(), full(), gaps(), wrong} {
		b, _ := bytesOf(x)
		for _, more := range [][]byte{{0}, {255}, {0, 0}, bytes.Repeat([]byte{1}, 300), b} {
			if y, e := table.Get(slices.Concat(b, more)); !equal(y, api.Table{}) || e != api.ErrForm {
				t.Errorf("%x behind: %v, %v", more, y, e)
			}
		}
	}
}

// Whatever stands at one place of right bytes, the table is what they tell, or none.
func TestGetOfEachByte(t *testing.T) {
	for _, x := range []api.Table{example(), least(), full(), gaps()} {
		b, _ := bytesOf(x)
		for i := range b {
			for c := range 256 {
				d := slices.Clone(b)
				d[i] = byte(c)
				got(t, d)
			}
		}
	}
}

// got says whether Get takes the bytes for what they are: read here place by place.
func got(t *testing.T, b []byte) {
	t.Helper()
	var x api.Table
	want := api.ErrEnd
	if len(b) >= 5 {
		parts, windows, channels := int(b[2]), int(b[3]), int(b[4])
		switch n := 5 + 4*parts + 3*windows + 3*channels; {
		case len(b) > n:
			want = api.ErrForm
		case len(b) == n:
			x.Frame, x.Trial = int(b[0]), int(b[1])
			for p := range slices.Chunk(b[5:5+4*parts], 4) {
				x.Parts = append(x.Parts, part(int(p[0]), int(p[1]), int(p[2])*256+int(p[3])))
			}
			for w := range slices.Chunk(b[5+4*parts:n-3*channels], 3) {
				x.Windows = append(x.Windows, window(int(w[0]), int(w[1]), int(w[2])))
			}
			for c := range slices.Chunk(b[n-3*channels:], 3) {
				x.Channels = append(x.Channels, channel(int(c[0]), int(c[1]), int(c[2])))
			}
			want = api.OK
			if !isRight(x) {
				x, want = api.Table{}, api.ErrTable
			}
		}
	}
	y, e := table.Get(b)
	if !equal(x, y) || e != want {
		t.Errorf("Get of %x: %v, %v; want %v, %v", b, y, e, x, want)
	}
	if c, f := table.Put(y); e == api.OK && (f != api.OK || !bytes.Equal(b, c)) {
		t.Errorf("Put of what was got of %x: %x, %v", b, c, f)
	}
}

// The greatest numbers of all: as many parts, windows and channels as the bytes can tell.
func TestGetOfTheMost(t *testing.T) {
	b := append([]byte{10, 1, 255, 255, 255}, make([]byte, 255*(4+3+3))...)
	got(t, b)
	got(t, b[:len(b)-1])
	got(t, append(b, 0))
	got(t, bytes.Repeat([]byte{255}, len(b)))
	got(t, make([]byte, 5))
	got(t, make([]byte, 6))
	got(t, make([]byte, 1<<20))
}

// P5.2.

func TestExample(t *testing.T) {
	x := example()
	for pos, want := range []int{0, 0, 0, 0, -1, 1, 1, 1, 1, 1} {
		if w := table.Window(x, pos); w != want {
			t.Errorf("Window(%d) %d, want %d", pos, w, want)
		}
	}
	if table.Share(x, 0) != 4 || table.Share(x, 1) != 5 {
		t.Errorf("Share %d, %d", table.Share(x, 0), table.Share(x, 1))
	}
}

func TestWindow(t *testing.T) {
	want := []int{-1, -1, 0, 0, 1, 1, 1, -1, -1, 2, -1, 3, 3, 3, 3, 4, 4, -1, -1, -1}
	for pos, w := range want {
		if got := table.Window(gaps(), pos); got != w {
			t.Errorf("Window(%d) %d, want %d", pos, got, w)
		}
	}
	for pos := range 64 {
		if got := table.Window(full(), pos); got != pos/8 {
			t.Errorf("of a full frame: Window(%d) %d", pos, got)
		}
	}
	for _, x := range []api.Table{example(), least(), full(), gaps()} { // a tick of another frame isn't one of this
		for _, pos := range []int{math.MinInt, -x.Frame, -1, x.Frame, x.Frame + 3, 2 * x.Frame, 256, 1 << 32, math.MaxInt} {
			if got := table.Window(x, pos); got != -1 {
				t.Errorf("Window(%d) %d", pos, got)
			}
		}
	}
}

func TestShare(t *testing.T) {
	for _, c := range []struct {
		x    api.Table
		want []int
	}{
		{example(), []int{4, 5, 0}}, {least(), []int{1, 0, 0}}, {gaps(), []int{3, 5, 4, 0}}, {full(), []int{16, 16, 16, 16, 0}},
		{windowed(4, 64, window(0, 0, 64)), []int{64, 0, 0, 0, 0}},
		{windowed(3, 20, window(2, 1, 7), window(0, 8, 1)), []int{1, 0, 7, 0}},
	} {
		for p, want := range c.want {
			if s := table.Share(c.x, p); s != want {
				t.Errorf("%v: Share(%d) %d, want %d", c.x.Windows, p, s, want)
			}
		}
		for _, p := range []int{math.MinInt, -1, 4, 256, 1 << 32, math.MaxInt} {
			if s := table.Share(c.x, p); s != 0 {
				t.Errorf("Share(%d) %d", p, s)
			}
		}
	}
}

func TestReach(t *testing.T) {
	type ways = [][2]int
	for _, c := range []struct {
		what string
		x    api.Table
		want [4][]int
	}{
		{"no channel", joined(), [4][]int{{0}, {1}, {2}, {3}}},
		{"one channel", joined(ways{{1, 2}}...), [4][]int{{0}, {1, 2}, {2}, {3}}},
		{"there and back", joined(ways{{3, 0}, {0, 3}}...), [4][]int{{0, 3}, {1}, {2}, {0, 3}}},
		{"a chain in order", joined(ways{{0, 1}, {1, 2}, {2, 3}}...), [4][]int{{0, 1, 2, 3}, {1, 2, 3}, {2, 3}, {3}}},
		{"a chain out of order", joined(ways{{2, 3}, {1, 2}, {0, 1}}...), [4][]int{{0, 1, 2, 3}, {1, 2, 3}, {2, 3}, {3}}},
		{"a chain that goes down", joined(ways{{1, 0}, {2, 1}, {3, 2}}...), [4][]int{{0}, {0, 1}, {0, 1, 2}, {0, 1, 2, 3}}},
		{"a chain to and fro", joined(ways{{1, 3}, {2, 1}, {0, 2}}...), [4][]int{{0, 1, 2, 3}, {1, 3}, {1, 2, 3}, {3}}},
		{"a circle", joined(ways{{0, 1}, {1, 2}, {2, 3}, {3, 0}}...), [4][]int{{0, 1, 2, 3}, {0, 1, 2, 3}, {0, 1, 2, 3}, {0, 1, 2, 3}}},
		{"a circle turned about", joined(ways{{0, 3}, {1, 0}, {2, 1}, {3, 2}}...), [4][]int{{0, 1, 2, 3}, {0, 1, 2, 3}, {0, 1, 2, 3}, {0, 1, 2, 3}}},
		{"a circle of three, and one behind", joined(ways{{3, 1}, {1, 2}, {2, 3}, {2, 0}}...), [4][]int{{0}, {0, 1, 2, 3}, {0, 1, 2, 3}, {0, 1, 2, 3}}},
		{"a circle of three, and one ahead", joined(ways{{0, 2}, {3, 1}, {2, 3}, {1, 2}}...), [4][]int{{0, 1, 2, 3}, {1, 2, 3}, {1, 2, 3}, {1, 2, 3}}},
		{"a fork", joined(ways{{2, 0}, {2, 1}, {2, 3}}...), [4][]int{{0}, {1}, {0, 1, 2, 3}, {3}}},
		{"a fork turned about", joined(ways{{0, 2}, {1, 2}, {3, 2}}...), [4][]int{{0, 2}, {1, 2}, {2}, {2, 3}}},
		{"two ways to one", joined(ways{{0, 1}, {0, 2}, {1, 3}, {2, 3}}...), [4][]int{{0, 1, 2, 3}, {1, 3}, {2, 3}, {3}}},
		{"two apart", joined(ways{{0, 1}, {3, 2}}...), [4][]int{{0, 1}, {1}, {2}, {2, 3}}},
		{"one four times", joined(ways{{1, 0}, {1, 0}, {1, 0}, {1, 0}}...), [4][]int{{0}, {0, 1}, {2}, {3}}},
	} {
		judge(t, c.what, c.x, true)
		for p, want := range c.want {
			if l := table.Reach(c.x, p); !slices.Equal(l, want) {
				t.Errorf("%s: Reach(%d) %v, want %v", c.what, p, l, want)
			}
		}
		for _, p := range []int{math.MinInt, -1, 4, 5, 256, 1 << 32, math.MaxInt} {
			if l := table.Reach(c.x, p); len(l) != 0 {
				t.Errorf("%s: Reach(%d) %v", c.what, p, l)
			}
		}
	}
}

// Each choice of up to four channels, in each order.
func TestReachOfEachChoice(t *testing.T) {
	var each []api.Channel
	for a := range 4 {
		for b := range 4 {
			if a != b {
				each = append(each, channel(a, b, 0))
			}
		}
	}
	x := full()
	for n := range 12 * 12 * 12 * 12 {
		x.Channels = []api.Channel{each[n%12], each[n/12%12], each[n/144%12], each[n/1728]}[:1+n%4]
		for p := range 4 {
			var want []int
			for to := range 4 {
				if walks(x, p, to, 4) {
					want = append(want, to)
				}
			}
			if l := table.Reach(x, p); !slices.Equal(l, want) {
				t.Fatalf("%v: Reach(%d) %v, want %v", x.Channels, p, l, want)
			}
		}
	}
}

// A partition that there is in some table, but not in this.
func TestPartsThatAreNotThere(t *testing.T) {
	for parts := 2; parts <= 4; parts++ {
		x := windowed(parts, 10, window(0, 0, 2), window(1, 5, 1))
		for p := -1; p <= 5; p++ {
			l, s := table.Reach(x, p), table.Share(x, p)
			if there := within(0, p, parts-1); there && !slices.Equal(l, []int{p}) || !there && (len(l) != 0 || s != 0) {
				t.Errorf("of %d: Reach(%d) %v, Share %d", parts, p, l, s)
			}
		}
	}
}

// P5.3.

func TestWhatIsPutIsGot(t *testing.T) {
	for frame := 1; frame <= 64; frame++ {
		for many := 1; many <= min(frame, 8); many++ {
			x := api.Table{Frame: frame, Trial: 1 + (frame+many)%7}
			for i := range 2 + frame%3 {
				x.Parts = append(x.Parts, part(1+(frame+i)%16, 1+(3*frame+i)%32, (4099*frame+77*many+i)%65536))
			}
			for i := range many {
				at, behind := frame*i/many, frame*(i+1)/many
				x.Windows = append(x.Windows, window(i%len(x.Parts), at, max(1, behind-at-(frame+i)%2)))
			}
			for i := range (frame + many) % 5 {
				x.Channels = append(x.Channels, channel(i%len(x.Parts), (i+1)%len(x.Parts), (frame+i)%5))
			}
			judge(t, "put", x, true)
		}
	}
}

// The rules. R1: each call ends, and none panics, at all arguments.

func TestWildTables(t *testing.T) {
	wild := []int{math.MinInt, -1, 0, 1, math.MaxInt}
	for _, a := range wild {
		for _, b := range wild {
			x := api.Table{Frame: a, Trial: b, Parts: []api.Part{part(a, b, a), part(b, a, b)}, Windows: []api.Window{window(a, b, a), window(b, a, b), window(0, b, a)}, Channels: []api.Channel{channel(a, b, b)}}
			judge(t, "wild", x, false)
			x = full()
			x.Frame, x.Windows, x.Channels = 64, []api.Window{window(0, 0, 1), window(a, b, a)}, []api.Channel{channel(b, a, b)}
			judge(t, "wild lists", x, false)
		}
	}
	x := full()
	x.Windows = make([]api.Window, 1<<20)
	judge(t, "very many windows", x, false)
	x = full()
	x.Channels = make([]api.Channel, 1<<20)
	judge(t, "very many channels", x, false)
	x = full()
	x.Parts = make([]api.Part, 1<<20)
	judge(t, "very many parts", x, false)
}

// R2: bytes that end go ahead of bytes that are left, as there can't be both, and each goes ahead of a table that isn't right.
func TestErrorsInOrder(t *testing.T) {
	wrong := api.Table{Frame: 0, Parts: []api.Part{{}, {}}, Windows: []api.Window{window(9, 9, 0)}, Channels: []api.Channel{channel(3, 3, 9)}}
	b, _ := bytesOf(wrong)
	for _, c := range []struct {
		b    []byte
		want api.Errno
	}{
		{b, api.ErrTable}, {b[:len(b)-1], api.ErrEnd}, {b[:1], api.ErrEnd}, {append(slices.Clone(b), 1), api.ErrForm},
	} {
		if y, e := table.Get(c.b); !equal(y, api.Table{}) || e != c.want {
			t.Errorf("Get of %x: %v, %v; want %v", c.b, y, e, c.want)
		}
	}
}

// R3: nil and empty lists are one.
func TestNilAndEmpty(t *testing.T) {
	for _, base := range []func() api.Table{least, example} {
		x, y := base(), base()
		x.Channels, y.Channels = nil, []api.Channel{}
		a, e := table.Put(x)
		b, f := table.Put(y)
		if !table.Right(x) || !table.Right(y) || e != api.OK || f != api.OK || !bytes.Equal(a, b) {
			t.Errorf("no channels: %x, %v; %x, %v", a, e, b, f)
		}
		for p := range 2 {
			if !slices.Equal(table.Reach(x, p), table.Reach(y, p)) || table.Share(x, p) != table.Share(y, p) || table.Window(x, p) != table.Window(y, p) {
				t.Errorf("of %d they tell unlike things", p)
			}
		}
	}
	x := least()
	x.Windows = []api.Window{}
	judge(t, "empty windows", x, false)
	x.Windows, x.Parts = nil, []api.Part{}
	judge(t, "empty parts", x, false)
	if _, e := table.Get([]byte{}); e != api.ErrEnd {
		t.Errorf("Get of no bytes: %v", e)
	}
}

// R4: what is handed in stays as it was, the room behind its lists, too.
func TestChangesNothing(t *testing.T) {
	wrong := gaps()
	wrong.Windows[1], wrong.Windows[0] = wrong.Windows[0], wrong.Windows[1]
	for _, x := range []api.Table{example(), least(), full(), gaps(), wrong} {
		was := copied(x)
		was.Parts = append(was.Parts, part(77, 78, 79))
		was.Windows = append(was.Windows, window(77, 78, 79))
		was.Channels = append(was.Channels, channel(77, 78, 79))
		whole := copied(was)
		y := whole
		y.Parts, y.Windows, y.Channels = whole.Parts[:len(x.Parts)], whole.Windows[:len(x.Windows)], whole.Channels[:len(x.Channels)]
		table.Right(y)
		table.Put(y)
		for n := -1; n <= 64; n++ {
			table.Window(y, n)
			table.Reach(y, n)
			table.Share(y, n)
		}
		if !equal(whole, was) {
			t.Errorf("%v was %v", whole, was)
		}
		b, _ := bytesOf(x)
		b = append(b, 0xee, 0xee, 0xee)
		before := slices.Clone(b)
		for n := range b {
			table.Get(b[:n])
		}
		if !bytes.Equal(b, before) {
			t.Errorf("%x was %x", b, before)
		}
	}
}

// R4: what is answered is new memory, and nothing that is handed in is kept.
func TestAnswersAreNew(t *testing.T) {
	for _, base := range []func() api.Table{example, least, full, gaps} {
		want, _ := bytesOf(base())
		x := base()
		b, _ := table.Put(x)
		c, _ := table.Put(x)
		spoil(b, 0xee)
		spoil(x.Parts, api.Part{})
		spoil(x.Windows, api.Window{})
		spoil(x.Channels, api.Channel{})
		if !bytes.Equal(c, want) {
			t.Errorf("Put: %x, want %x", c, want)
		}
		d := slices.Clone(want)
		y, _ := table.Get(d)
		z, _ := table.Get(d)
		spoil(d, 0xee)
		spoil(y.Parts, api.Part{})
		spoil(y.Windows, api.Window{})
		spoil(y.Channels, api.Channel{})
		if !equal(z, base()) {
			t.Errorf("Get: %v, want %v", z, base())
		}
		l := table.Reach(z, 0)
		m := slices.Clone(l)
		n := table.Reach(z, 0)
		spoil(l, 77)
		if !slices.Equal(n, m) || !slices.Equal(table.Reach(z, 0), m) {
			t.Errorf("Reach: %v, want %v", n, m)
		}
		judge(t, "at last", z, true)
	}
}

// spoil writes x all over l, spare room included.
func spoil[T any](l []T, x T) {
	for i := range l[:cap(l)] {
		l[:cap(l)][i] = x
	}
}

// R5: what was asked ahead doesn't matter.
func TestAsksLeaveNothing(t *testing.T) {
	for range 3 {
		for _, base := range []func() api.Table{example, least, full, gaps} {
			judge(t, "again", base(), true)
			x := base()
			x.Windows = slices.Concat(x.Windows, x.Windows)
			judge(t, "wrong between", x, false)
			table.Get([]byte{1, 2, 3})
		}
	}
}

// FuzzGet: whatever the bytes are, they are taken for what they tell, and each answer beyond it is what the chapter's words make of it.
func FuzzGet(f *testing.F) {
	for _, x := range []api.Table{example(), least(), full(), gaps(), {}} {
		b, _ := bytesOf(x)
		f.Add(b)
		f.Add(b[:len(b)-1])
		f.Add(append(b, 0))
	}
	f.Fuzz(func(t *testing.T, b []byte) {
		got(t, b)
		if x, e := table.Get(b); e == api.OK {
			judge(t, "fuzzed", x, true)
		}
	})
}
