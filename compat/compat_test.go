package compat_test

import (
	"bytes"
	"math"
	"slices"
	"strconv"
	"testing"

	"longeron/api"
	"longeron/compat"
	"longeron/image"
	"longeron/table"
)

// far are numbers beyond all that there is, and such of which fewer bits would be within.
var far = []int{math.MinInt, math.MinInt + 1, -1 << 32, -1<<32 + 1, -65536, -256, -255, -5, -4, -3, -2, -1, 5, 16, 255, 256, 257, 258, 65536, 65537, 1 << 32, 1<<32 + 1, 1<<32 + 3, 1 << 62, math.MaxInt - 1, math.MaxInt}

func channel(from, to, depth int) api.Channel { return api.Channel{From: from, To: to, Depth: depth} }

// tabled is a right table of so many partitions, each with numbers of its own, and of these channels.
func tabled(parts int, channels ...api.Channel) api.Table {
	x := api.Table{Frame: 20, Trial: 3, Channels: channels}
	for n := range parts {
		x.Parts = append(x.Parts, api.Part{Mem: 3 + n*4, Fuel: 30 - n*7, Hard: n * 300})
		x.Windows = append(x.Windows, api.Window{Part: n, From: 5 * n, Long: 4})
	}
	return x
}

// ordinary is a right table of so many partitions, with all channels that there may be.
func ordinary(parts int) api.Table {
	all := []api.Channel{channel(1, 0, 0), channel(0, parts-1, 2), channel(parts-1, 0, 4), channel(0, 1, 0)}
	return tabled(parts, all...)
}

// ends are the channels that begin and end at a partition, a bit each, as the chapter's words have it.
func ends(x api.Table, part int) (sends, receives int) {
	bit := 1
	for _, c := range x.Channels {
		if c.From == part {
			sends += bit
		}
		if c.To == part {
			receives += bit
		}
		bit *= 2
	}
	return sends, receives
}

// fitting is an image that needs all that the partition has.
func fitting(x api.Table, part int) api.Image {
	p := x.Parts[part]
	sends, receives := ends(x, part)
	return api.Image{Part: part, Version: 300, Hard: p.Hard, Mem: p.Mem, Fuel: p.Fuel, Sends: sends, Receives: receives, Code: []byte{1, 2, 17}}
}

// has tells whether the bit of a channel is in a set.
func has(set, channel int) bool { return set>>channel%2 == 1 }

// wanted is what Check is to answer, as the chapter's words have it.
func wanted(x api.Table, part int, i api.Image, version int) api.Errno {
	if !table.Right(x) {
		return api.ErrTable
	}
	if part < 0 || part >= len(x.Parts) || !image.Right(i) {
		return api.ErrRange
	}
	p := x.Parts[part]
	if i.Part != part || i.Hard != p.Hard {
		return api.ErrPart
	}
	if i.Mem > p.Mem || i.Fuel > p.Fuel {
		return api.ErrSize
	}
	for c := range 4 {
		if has(i.Sends, c) && (c >= len(x.Channels) || x.Channels[c].From != part) {
			return api.ErrPort
		}
		if has(i.Receives, c) && (c >= len(x.Channels) || x.Channels[c].To != part) {
			return api.ErrPort
		}
	}
	if i.Version <= version {
		return api.ErrOld
	}
	return api.OK
}

// judge says whether Check answers that, and Fits with it.
func judge(t *testing.T, what string, x api.Table, part int, i api.Image, version int, want api.Errno) {
	t.Helper()
	if model := wanted(x, part, i, version); model != want {
		t.Fatalf("%s: the test's own words make it %v, want %v", what, model, want)
	}
	if e := compat.Check(x, part, i, version); e != want {
		t.Errorf("%s: Check(%v, %d, %v, %d): %v, want %v", what, x, part, i, version, e, want)
	}
	fits := want == api.OK || want == api.ErrOld
	if got := compat.Fits(x, part, i); got != fits {
		t.Errorf("%s: Fits(%v, %d, %v): %v, want %v", what, x, part, i, got, fits)
	}
}

// judgeEnds says whether Sends and Receives answer these.
func judgeEnds(t *testing.T, what string, x api.Table, part, sends, receives int) {
	t.Helper()
	if got := compat.Sends(x, part); got != sends {
		t.Errorf("%s: Sends(%v, %d): %b, want %b", what, x, part, got, sends)
	}
	if got := compat.Receives(x, part); got != receives {
		t.Errorf("%s: Receives(%v, %d): %b, want %b", what, x, part, got, receives)
	}
}

// P13.1: ordinary.

// The chapter's example.
func TestExample(t *testing.T) {
	x := ordinary(3)
	judge(t, "example", x, 2, fitting(x, 1), 0, api.ErrPart)
	judge(t, "where it belongs", x, 1, fitting(x, 1), 0, api.OK)
}

// An image that fits each partition of each table there may be, and none of the others.
func TestEachPartition(t *testing.T) {
	for parts := 2; parts <= 4; parts++ {
		x := ordinary(parts)
		for made := range parts {
			for part := range parts {
				want := api.ErrPart
				if part == made {
					want = api.OK
				}
				judge(t, "each", x, part, fitting(x, made), 299, want)
			}
		}
	}
}

// A table of one partition isn't right, so that nothing fits it; nor is one of none, or of five.
func TestTooFewPartitions(t *testing.T) {
	one := api.Table{Frame: 4, Trial: 1, Parts: []api.Part{{Mem: 4, Fuel: 4}}, Windows: []api.Window{{Part: 0, From: 0, Long: 4}}}
	i := api.Image{Version: 5, Mem: 1, Fuel: 1, Code: []byte{0}}
	judge(t, "one", one, 0, i, 0, api.ErrTable)
	judge(t, "five", tabled(5), 0, i, 0, api.ErrTable)
	judge(t, "none", api.Table{}, 0, i, 0, api.ErrTable)
}

// A program that needs as little as may be fits each partition.
func TestLeastImage(t *testing.T) {
	for parts := 2; parts <= 4; parts++ {
		for _, x := range []api.Table{ordinary(parts), tabled(parts)} {
			for part := range parts {
				i := api.Image{Part: part, Version: 1, Hard: x.Parts[part].Hard, Mem: 1, Fuel: 1, Code: []byte{0}}
				judge(t, "least", x, part, i, 0, api.OK)
			}
		}
	}
}

// The greatest numbers that there may be.
func TestGreatestImage(t *testing.T) {
	x := tabled(4, channel(3, 0, 4), channel(3, 1, 4), channel(3, 2, 4), channel(3, 0, 4))
	x.Parts[3] = api.Part{Mem: 16, Fuel: 32, Hard: 65535}
	i := api.Image{Part: 3, Version: 65535, Hard: 65535, Mem: 16, Fuel: 32, Sends: 15, Code: bytes.Repeat([]byte{0xff}, 96)}
	judge(t, "sends all", x, 3, i, 65534, api.OK)
	for n, c := range x.Channels {
		x.Channels[n] = channel(c.To, c.From, c.Depth)
	}
	i.Sends, i.Receives = 0, 15
	judge(t, "receives all", x, 3, i, 65534, api.OK)
}

// P13.1: the edges.

// wrongTables are ways in which a right table of so many partitions with four channels and two windows at least is right no longer: those that layer 5 names.
func wrongTables(parts int) []func(x *api.Table) {
	var all []func(x *api.Table)
	number := func(of func(x *api.Table) *int, values ...int) {
		for _, n := range append(values, math.MinInt, math.MaxInt, -1<<32, 1<<32) {
			all = append(all, func(x *api.Table) { *of(x) = n })
		}
	}
	number(func(x *api.Table) *int { return &x.Frame }, -1, 0, 65)
	number(func(x *api.Table) *int { return &x.Trial }, -1, 0, 8)
	for n := range parts {
		number(func(x *api.Table) *int { return &x.Parts[n].Mem }, -1, 0, 17)
		number(func(x *api.Table) *int { return &x.Parts[n].Fuel }, -1, 0, 33)
		number(func(x *api.Table) *int { return &x.Parts[n].Hard }, -1, 65536)
		number(func(x *api.Table) *int { return &x.Windows[n].Part }, -1, parts)
		number(func(x *api.Table) *int { return &x.Windows[n].From }, -1, 65)
		number(func(x *api.Table) *int { return &x.Windows[n].Long }, -1, 0, 21)
	}
	for n := range 4 {
		number(func(x *api.Table) *int { return &x.Channels[n].From }, -1, parts)
		number(func(x *api.Table) *int { return &x.Channels[n].To }, -1, parts)
		number(func(x *api.Table) *int { return &x.Channels[n].Depth }, -1, 5)
		all = append(all,
			func(x *api.Table) { x.Channels[n].From = x.Channels[n].To },
			func(x *api.Table) { x.Channels[n].To = x.Channels[n].From })
	}
	return append(all,
		func(x *api.Table) { x.Parts = nil },
		func(x *api.Table) { x.Parts = x.Parts[:1] },
		func(x *api.Table) { x.Parts = append(x.Parts, slices.Repeat(x.Parts[:1], 5-parts)...) },
		func(x *api.Table) { x.Windows = nil },
		func(x *api.Table) { x.Windows = x.Windows[1:] },
		func(x *api.Table) { x.Windows = slices.Repeat(x.Windows[:1], 9) },
		func(x *api.Table) { x.Windows[0].Long = 6 },
		func(x *api.Table) { x.Windows[1].From = 3 },
		func(x *api.Table) { x.Windows[0], x.Windows[1] = x.Windows[1], x.Windows[0] },
		func(x *api.Table) { x.Windows[0].Part = 1 },
		func(x *api.Table) { x.Frame = 5*parts - 2 },
		func(x *api.Table) { x.Windows[parts-1].Long = x.Frame },
		func(x *api.Table) { x.Channels = append(x.Channels, channel(0, 1, 0)) },
	)
}

// Of a table that isn't right nothing is told, whatever the partition and the image are.
func TestWrongTables(t *testing.T) {
	for parts := 2; parts <= 4; parts++ {
		for n, turn := range wrongTables(parts) {
			x := ordinary(parts)
			turn(&x)
			what := "wrong table " + strconv.Itoa(n) + " of " + strconv.Itoa(parts)
			for part := range parts {
				i := fitting(ordinary(parts), part)
				judge(t, what, x, part, i, 0, api.ErrTable)
				i.Sends, i.Receives = 0, 0
				judge(t, what, x, part, i, 0, api.ErrTable)
				judge(t, what, x, part, i, 300, api.ErrTable)
				judge(t, what, x, part, api.Image{}, 0, api.ErrTable)
				judgeEnds(t, what, x, part, 0, 0)
			}
			for _, part := range append(far, parts) {
				judge(t, what, x, part, fitting(ordinary(parts), 0), 0, api.ErrTable)
				judgeEnds(t, what, x, part, 0, 0)
			}
		}
	}
}

// A partition that there isn't: none beyond the last one, none below the first one. That the image is made for it doesn't help.
func TestNoSuchPartition(t *testing.T) {
	for parts := 2; parts <= 4; parts++ {
		for _, x := range []api.Table{ordinary(parts), tabled(parts)} {
			for _, part := range append(far, parts, parts+1, parts+2, -parts) {
				for made := range parts {
					i := fitting(x, made)
					judge(t, "no such partition", x, part, i, 0, api.ErrRange)
					i.Sends, i.Receives = 0, 0
					i.Part = part
					judge(t, "no such partition, made for it", x, part, i, 0, api.ErrRange)
				}
				judgeEnds(t, "no such partition", x, part, 0, 0)
			}
		}
	}
}

// fields are an image's numbers, and the bounds within which layer 6 has them.
var fields = []struct {
	what        string
	least, most int
	of          func(i *api.Image) *int
}{
	{"Part", 0, 3, func(i *api.Image) *int { return &i.Part }},
	{"Version", 1, 65535, func(i *api.Image) *int { return &i.Version }},
	{"Hard", 0, 65535, func(i *api.Image) *int { return &i.Hard }},
	{"Mem", 1, 16, func(i *api.Image) *int { return &i.Mem }},
	{"Fuel", 1, 32, func(i *api.Image) *int { return &i.Fuel }},
	{"Sends", 0, 15, func(i *api.Image) *int { return &i.Sends }},
	{"Receives", 0, 15, func(i *api.Image) *int { return &i.Receives }},
}

// An image that isn't right in one of its fields: that goes ahead of what the partition doesn't have.
func TestWrongImages(t *testing.T) {
	for parts := 2; parts <= 4; parts++ {
		x := ordinary(parts)
		for part := range parts {
			for _, f := range fields {
				for _, n := range append(far, f.least-1, f.most+1, f.most+2, -f.most) {
					i := fitting(x, part)
					if *f.of(&i) = n; n < f.least || n > f.most {
						judge(t, "wrong "+f.what, x, part, i, 0, api.ErrRange)
					}
				}
			}
			for _, code := range [][]byte{nil, {}, make([]byte, 97), make([]byte, 65536)} {
				i := fitting(x, part)
				i.Code = code
				judge(t, "wrong Code", x, part, i, 0, api.ErrRange)
			}
			judge(t, "nothing", x, part, api.Image{Part: part}, 0, api.ErrRange)
		}
	}
}

// Each number of each field of a right image, by itself: what it comes to.
func TestEachField(t *testing.T) {
	for parts := 2; parts <= 4; parts++ {
		x := ordinary(parts)
		for part := range parts {
			for _, f := range fields {
				for n := f.least - 1; n <= f.most+1; n += 1 + f.most/2000 {
					i := fitting(x, part)
					*f.of(&i) = n
					judge(t, f.what, x, part, i, 150, wanted(x, part, i, 150))
				}
			}
		}
	}
}

// Hard is the partition's: not one that is alike in most bits, not another partition's, not 0.
func TestHard(t *testing.T) {
	for _, hard := range []int{0, 1, 255, 256, 300, 32767, 32768, 65534, 65535} {
		x := tabled(3)
		x.Parts[1].Hard = hard
		i := fitting(x, 1)
		judge(t, "the same", x, 1, i, 0, api.OK)
		for bit := range 16 {
			i.Hard = hard ^ 1<<bit
			judge(t, "another bit", x, 1, i, 0, api.ErrPart)
		}
		for _, other := range []int{hard - 1, hard + 1, 0, 65535, x.Parts[0].Hard, x.Parts[2].Hard} {
			if i.Hard = other; other != hard && 0 <= other && other <= 65535 {
				judge(t, "another one", x, 1, i, 0, api.ErrPart)
			}
		}
	}
}

// Two partitions alike in all: the number alone tells them apart.
func TestLikePartitions(t *testing.T) {
	x := tabled(4)
	for n := range x.Parts {
		x.Parts[n] = api.Part{Mem: 4, Fuel: 4, Hard: 7}
	}
	for made := range 4 {
		for part := range 4 {
			want := api.ErrPart
			if made == part {
				want = api.OK
			}
			judge(t, "alike", x, part, fitting(x, made), 0, want)
		}
	}
}

// Mem and Fuel: as much as the partition has, one more, one fewer, and all others, whatever the other partitions have.
func TestMemAndFuel(t *testing.T) {
	for part := range 3 {
		for mem := 1; mem <= 16; mem++ {
			for fuel := 1; fuel <= 32; fuel++ {
				x := tabled(3)
				for n := range x.Parts {
					x.Parts[n].Mem, x.Parts[n].Fuel = 17-mem, 33-fuel
				}
				x.Parts[part].Mem, x.Parts[part].Fuel = mem, fuel
				i := fitting(x, part)
				judge(t, "just as much", x, part, i, 0, api.OK)
				needs(t, x, part, i)
			}
		}
	}
}

// needs says whether each Mem and each Fuel, and both, are taken for what they are.
func needs(t *testing.T, x api.Table, part int, i api.Image) {
	t.Helper()
	want := func(fits bool) api.Errno {
		if fits {
			return api.OK
		}
		return api.ErrSize
	}
	has := x.Parts[part]
	for n := 1; n <= 16; n++ {
		i.Mem, i.Fuel = n, has.Fuel
		judge(t, "Mem", x, part, i, 0, want(n <= has.Mem))
	}
	for n := 1; n <= 32; n++ {
		i.Mem, i.Fuel = has.Mem, n
		judge(t, "Fuel", x, part, i, 0, want(n <= has.Fuel))
	}
	for _, d := range [][2]int{{1, 1}, {1, -1}, {-1, 1}, {-1, -1}} {
		i.Mem, i.Fuel = has.Mem+d[0], has.Fuel+d[1]
		if image.Right(i) {
			judge(t, "both", x, part, i, 0, want(d[0] < 0 && d[1] < 0))
		}
	}
}

// pairs are the channels that there may be among so many partitions.
func pairs(parts int) []api.Channel {
	var all []api.Channel
	for from := range parts {
		for to := range parts {
			if from != to {
				all = append(all, channel(from, to, (from+2*to)%5))
			}
		}
	}
	return all
}

// choices calls do with each row of n channels among so many partitions.
func choices(parts, n int, do func(l []api.Channel)) {
	all := pairs(parts)
	places := 1
	for range n {
		places *= len(all)
	}
	for at := range places {
		var l []api.Channel
		for range n {
			l = append(l, all[at%len(all)])
			at /= len(all)
		}
		do(l)
	}
}

// Sends and Receives of all sixteen sets each, of each row of up to four channels among two or three partitions.
func TestEachSetOfChannels(t *testing.T) {
	for parts := 2; parts <= 3; parts++ {
		for n := range 5 {
			choices(parts, n, func(l []api.Channel) {
				x := tabled(parts, l...)
				for part := range parts {
					i := fitting(x, part)
					for set := range 256 {
						i.Sends, i.Receives = set%16, set/16
						judge(t, "set", x, part, i, 0, wanted(x, part, i, 0))
					}
				}
			})
		}
	}
}

// No bit, each bit of a channel, each of one that there isn't, and all bits, one by one.
func TestBitsOfChannels(t *testing.T) {
	for n := range 5 {
		l := []api.Channel{channel(1, 0, 0), channel(1, 2, 2), channel(1, 0, 4), channel(1, 2, 1)}[:n]
		back := []api.Channel{channel(0, 1, 0), channel(2, 1, 2), channel(0, 1, 4), channel(2, 1, 1)}[:n]
		for set := range 16 {
			want := api.OK
			if set >= 1<<n {
				want = api.ErrPort
			}
			i := fitting(tabled(3), 1)
			i.Sends = set
			judge(t, "sends", tabled(3, l...), 1, i, 0, want)
			i.Sends, i.Receives = 0, set
			judge(t, "receives", tabled(3, back...), 1, i, 0, want)
			if set > 0 {
				judge(t, "receives what it sends", tabled(3, l...), 1, i, 0, api.ErrPort)
				i.Sends, i.Receives = set, 0
				judge(t, "sends what it receives", tabled(3, back...), 1, i, 0, api.ErrPort)
			}
		}
	}
}

// Of a channel's depth nothing hangs.
func TestDepths(t *testing.T) {
	for depth := range 5 {
		x := tabled(2, channel(0, 1, depth))
		judge(t, "from", x, 0, fitting(x, 0), 0, api.OK)
		judge(t, "to", x, 1, fitting(x, 1), 0, api.OK)
		judgeEnds(t, "from", x, 0, 1, 0)
		judgeEnds(t, "to", x, 1, 0, 1)
	}
}

// Newer is above, not as high: whatever the version is that it is held against.
func TestVersions(t *testing.T) {
	x := ordinary(2)
	for _, n := range []int{1, 2, 127, 128, 255, 256, 257, 300, 32767, 32768, 65534, 65535} {
		i := fitting(x, 1)
		i.Version = n
		for _, version := range []int{math.MinInt, math.MinInt + 1, math.MinInt + n, math.MinInt + n + 1, -1 << 32, -65536, -n, -1, 0, n - 1, n - 256, n - 65536, n - 1<<32} {
			judge(t, "newer", x, 1, i, version, api.OK)
		}
		for _, version := range []int{n, n + 1, n + 256, n + 65536, n + 1<<32, 65535, 65536, 1 << 32, 1 << 62, math.MaxInt - 1, math.MaxInt} {
			judge(t, "not newer", x, 1, i, version, api.ErrOld)
		}
	}
}

// P13.2.

// Each row of up to four channels, and each partition: just its channels, no one's else, none twice.
func TestEnds(t *testing.T) {
	for parts := 2; parts <= 4; parts++ {
		for n := range 5 {
			choices(parts, n, func(l []api.Channel) {
				x := tabled(parts, l...)
				allSends, allReceives := 0, 0
				for part := range parts {
					sends, receives := ends(x, part)
					judgeEnds(t, "row", x, part, sends, receives)
					if both := compat.Sends(x, part) & compat.Receives(x, part); both != 0 {
						t.Errorf("%v: %b both from and to %d", x, both, part)
					}
					allSends += compat.Sends(x, part)
					allReceives += compat.Receives(x, part)
				}
				if allSends != 1<<n-1 || allReceives != 1<<n-1 {
					t.Errorf("%v: from all %b, to all %b", x, allSends, allReceives)
				}
			})
		}
	}
}

// A channel in each of the places of a table, by hand.
func TestPlaces(t *testing.T) {
	x := tabled(4, channel(0, 1, 0), channel(2, 3, 1), channel(3, 0, 2), channel(2, 1, 4))
	for part, want := range [][2]int{{0b0001, 0b0100}, {0, 0b1001}, {0b1010, 0}, {0b0100, 0b0010}} {
		judgeEnds(t, "by hand", x, part, want[0], want[1])
	}
	judgeEnds(t, "no channel", tabled(4), 0, 0, 0)
	judgeEnds(t, "nothing", api.Table{}, 0, 0, 0)
	l := slices.Repeat([]api.Channel{channel(0, 1, 0)}, 4)
	judgeEnds(t, "alike", tabled(2, l...), 0, 15, 0)
	judgeEnds(t, "alike", tabled(2, l...), 1, 0, 15)
}

// A table that has a channel from a partition to itself isn't right: nothing is told of the others, either.
func TestChannelToItself(t *testing.T) {
	for parts := 2; parts <= 4; parts++ {
		for n := range 4 {
			for own := range parts {
				x := ordinary(parts)
				x.Channels[n] = channel(own, own, 1)
				for part := range parts {
					judgeEnds(t, "to itself", x, part, 0, 0)
					judge(t, "to itself", x, part, fitting(ordinary(parts), part), 0, api.ErrTable)
				}
			}
		}
	}
}

// The rules. R1: each call ends, and none panics, at all arguments.

func TestWild(t *testing.T) {
	wild := []int{math.MinInt, -1, 0, 1, 2, 4, math.MaxInt}
	for _, a := range wild {
		for _, b := range wild {
			i := api.Image{Part: a, Version: b, Hard: a, Mem: b, Fuel: a, Sends: b, Receives: a, Code: []byte{1}}
			bad := api.Table{Frame: a, Trial: b, Parts: []api.Part{{Mem: a, Fuel: b, Hard: a}, {Mem: b, Fuel: a, Hard: b}},
				Windows: []api.Window{{Part: a, From: b, Long: a}}, Channels: []api.Channel{{From: a, To: b, Depth: a}}}
			for _, part := range wild {
				for _, version := range wild {
					for _, x := range []api.Table{bad, ordinary(2), {}} {
						judge(t, "wild", x, part, i, version, wanted(x, part, i, version))
					}
				}
				judgeEnds(t, "wild", bad, part, 0, 0)
			}
		}
	}
}

func TestLong(t *testing.T) {
	x := ordinary(3)
	i := fitting(x, 1)
	i.Code = make([]byte, 1<<20)
	judge(t, "long code", x, 1, i, 0, api.ErrRange)
	x.Channels = slices.Repeat(x.Channels, 1<<18)
	judge(t, "many channels", x, 1, i, 0, api.ErrTable)
	judgeEnds(t, "many channels", x, 1, 0, 0)
	y := ordinary(3)
	y.Windows = slices.Repeat(y.Windows, 1<<18)
	judge(t, "many windows", y, 1, i, 0, api.ErrTable)
	z := ordinary(3)
	z.Parts = slices.Repeat(z.Parts, 1<<18)
	judge(t, "many partitions", z, 1, i, 0, api.ErrTable)
	judgeEnds(t, "many partitions", z, 1, 0, 0)
}

// asked is what Check is given.
type asked struct {
	x       api.Table
	part    int
	i       api.Image
	version int
}

// wrongs are ways in which what is asked is wrong, by the error that they yield, in the order of the errors. The first way of each changes nothing.
var wrongs = []struct {
	e    api.Errno
	ways []func(a *asked)
}{
	{api.ErrTable, []func(a *asked){func(*asked) {}, func(a *asked) { a.x.Trial = 0 }, func(a *asked) { a.x.Parts = a.x.Parts[:1] }, func(a *asked) { a.x.Channels[3].To = 3 }, func(a *asked) { a.x.Windows = nil }}},
	{api.ErrRange, []func(a *asked){func(*asked) {}, func(a *asked) { a.part = -1 }, func(a *asked) { a.part = 3 }, func(a *asked) { a.part = math.MinInt }, func(a *asked) { a.part = math.MaxInt }}},
	{api.ErrRange, []func(a *asked){func(*asked) {}, func(a *asked) { a.i.Code = nil }, func(a *asked) { a.i.Version = 0 }, func(a *asked) { a.i.Part = -1 }, func(a *asked) { a.i.Hard = 65536 }, func(a *asked) { a.i.Mem = 17 }, func(a *asked) { a.i.Fuel = 33 }, func(a *asked) { a.i.Sends = 16 }, func(a *asked) { a.i.Receives = 16 }}},
	{api.ErrPart, []func(a *asked){func(*asked) {}, func(a *asked) { a.i.Part = 2 }, func(a *asked) { a.i.Part = 3 }, func(a *asked) { a.i.Hard++ }, func(a *asked) { a.i.Part, a.i.Hard = 0, 0 }}},
	{api.ErrSize, []func(a *asked){func(*asked) {}, func(a *asked) { a.i.Mem++ }, func(a *asked) { a.i.Fuel++ }, func(a *asked) { a.i.Mem, a.i.Fuel = 16, 32 }}},
	{api.ErrPort, []func(a *asked){func(*asked) {}, func(a *asked) { a.i.Sends ^= 2 }, func(a *asked) { a.i.Receives ^= 4 }, func(a *asked) { a.i.Sends, a.i.Receives = a.i.Receives, a.i.Sends }, func(a *asked) { a.i.Sends, a.i.Receives = 15, 15 }}},
	{api.ErrOld, []func(a *asked){func(*asked) {}, func(a *asked) { a.version = 300 }, func(a *asked) { a.version = math.MaxInt }}},
}

// R2: of several errors the one that P13.1 names first is told: each way of each with each way of each other one.
func TestErrorsInOrder(t *testing.T) {
	count := 1
	for _, w := range wrongs {
		count *= len(w.ways)
	}
	for at := range count {
		a := asked{x: ordinary(3), part: 1, version: 299}
		a.i = fitting(a.x, 1)
		want := api.OK
		way := make([]int, len(wrongs))
		for n, w := range wrongs {
			way[n] = at % len(w.ways)
			at /= len(w.ways)
			if want == api.OK && way[n] > 0 {
				want = w.e
			}
		}
		for n := len(wrongs) - 1; n >= 0; n-- { // a wrong image's number stands, whatever else was to be wrong there
			if n != 2 {
				wrongs[n].ways[way[n]](&a)
			}
		}
		wrongs[2].ways[way[2]](&a)
		judge(t, "in order", a.x, a.part, a.i, a.version, want)
	}
}

// R3: nil and empty lists are one.
func TestNilAndEmpty(t *testing.T) {
	x, y := tabled(2), tabled(2)
	x.Channels, y.Channels = nil, []api.Channel{}
	for _, z := range []api.Table{x, y} {
		judge(t, "no channel", z, 1, fitting(z, 1), 0, api.OK)
		judgeEnds(t, "no channel", z, 1, 0, 0)
		for _, code := range [][]byte{nil, {}} {
			i := fitting(z, 1)
			i.Code = code
			judge(t, "no code", z, 1, i, 0, api.ErrRange)
		}
	}
	for _, parts := range [][]api.Part{nil, {}} {
		for _, windows := range [][]api.Window{nil, {}} {
			z := api.Table{Frame: 4, Trial: 1, Parts: parts, Windows: windows}
			judge(t, "empty", z, 0, fitting(x, 0), 0, api.ErrTable)
			judgeEnds(t, "empty", z, 0, 0, 0)
		}
	}
}

// roomy is l with room behind it in which something stands, and all of that.
func roomy[T any](l []T, litter T) ([]T, []T) {
	all := append(slices.Clone(l), slices.Repeat([]T{litter}, 9)...)
	return all[:len(l)], all
}

// R4: what is handed in stays as it was, the room behind it, too; and what is in that room doesn't matter.
func TestChangesNothing(t *testing.T) {
	for n, turn := range append(wrongTables(3), func(*api.Table) {}) {
		x := ordinary(3)
		turn(&x)
		y := x
		var parts []api.Part
		var windows []api.Window
		var channels []api.Channel
		y.Parts, parts = roomy(x.Parts, api.Part{Mem: 1, Fuel: 1, Hard: 9})
		y.Windows, windows = roomy(x.Windows, api.Window{Part: 0, From: 19, Long: 1})
		y.Channels, channels = roomy(x.Channels, channel(1, 2, 0))
		i := fitting(ordinary(3), 1)
		code, whole := roomy(i.Code, 0xee)
		i.Code = code
		wereParts, wereWindows, wereChannels, wasCode := slices.Clone(parts), slices.Clone(windows), slices.Clone(channels), slices.Clone(whole)
		for part := -1; part <= 4; part++ {
			for _, version := range []int{0, 300} {
				judge(t, "with room behind", y, part, i, version, wanted(x, part, i, version))
			}
			compat.Sends(y, part)
			compat.Receives(y, part)
		}
		if !slices.Equal(parts, wereParts) || !slices.Equal(windows, wereWindows) || !slices.Equal(channels, wereChannels) || !bytes.Equal(whole, wasCode) {
			t.Errorf("table %d: %v %v %v %x, were %v %v %v %x", n, parts, windows, channels, whole, wereParts, wereWindows, wereChannels, wasCode)
		}
	}
}

// R4: nothing that is handed in is kept: what is answered follows what stands there now.
func TestKeepsNothing(t *testing.T) {
	x := ordinary(3)
	i := fitting(x, 1)
	for range 3 {
		judge(t, "as it was", x, 1, i, 0, api.OK)
		judgeEnds(t, "as it was", x, 1, 0b0001, 0b1000)
		x.Channels[0].From, i.Code[0] = 2, 99
		judge(t, "the channel is another one's", x, 1, i, 0, api.ErrPort)
		judgeEnds(t, "the channel is another one's", x, 1, 0, 0b1000)
		x.Channels[0].From = 1
		x.Parts[1].Mem--
		judge(t, "less memory", x, 1, i, 0, api.ErrSize)
		x.Parts[1].Mem++
		x.Parts[1].Hard++
		judge(t, "other hardware", x, 1, i, 0, api.ErrPart)
		x.Parts[1].Hard--
		x.Windows[0].Part = 1
		judge(t, "no maintenance", x, 1, i, 0, api.ErrTable)
		judgeEnds(t, "no maintenance", x, 1, 0, 0)
		x.Windows[0].Part = 0
	}
}

// R5: what was asked ahead doesn't matter: each question answers the same behind each other one.
func TestAsksLeaveNothing(t *testing.T) {
	x, y := ordinary(2), ordinary(4)
	wrong := ordinary(3)
	wrong.Frame = 0
	questions := []func(){
		func() { judge(t, "fits", x, 1, fitting(x, 1), 299, api.OK) },
		func() { judge(t, "old", x, 1, fitting(x, 1), 300, api.ErrOld) },
		func() { judge(t, "fits, too", y, 3, fitting(y, 3), 0, api.OK) },
		func() { judge(t, "another one's", y, 2, fitting(y, 3), 0, api.ErrPart) },
		func() { judge(t, "no such partition", x, 2, fitting(y, 2), 0, api.ErrRange) },
		func() { judge(t, "wrong table", wrong, 1, fitting(x, 1), 0, api.ErrTable) },
		func() { judge(t, "no image", y, 0, api.Image{}, 0, api.ErrRange) },
		func() { judgeEnds(t, "ends", x, 1, 0b0101, 0b1010) },
		func() { judgeEnds(t, "ends, too", y, 3, 0b0100, 0b0010) },
		func() { judgeEnds(t, "no such partition", y, 4, 0, 0) },
		func() { judgeEnds(t, "wrong table", wrong, 0, 0, 0) },
	}
	for _, first := range questions {
		for _, second := range questions {
			first()
			second()
			second()
			first()
		}
	}
}

// numbers takes numbers out of bytes, and zeros when they end: mostly small ones, sometimes as great as may be.
type numbers struct{ b []byte }

func (n *numbers) next() int {
	if len(n.b) == 0 {
		return 0
	}
	v := n.b[0]
	n.b = n.b[1:]
	switch {
	case v < 200:
		return int(v % 40)
	case v < 250:
		return (int(v) - 225) * 3000
	case v < 253:
		return math.MaxInt
	}
	return math.MinInt
}

func (n *numbers) table() api.Table {
	x := api.Table{Frame: n.next(), Trial: n.next()}
	parts, windows, channels := n.next()%7, n.next()%11, n.next()%7
	for range max(parts, 0) {
		x.Parts = append(x.Parts, api.Part{Mem: n.next(), Fuel: n.next(), Hard: n.next()})
	}
	for range max(windows, 0) {
		x.Windows = append(x.Windows, api.Window{Part: n.next(), From: n.next(), Long: n.next()})
	}
	for range max(channels, 0) {
		x.Channels = append(x.Channels, channel(n.next(), n.next(), n.next()))
	}
	return x
}

// FuzzCheck: whatever the table, the partition and the image are, they are taken for what they are; an image is held against what is asked of it, and against a right table, too.
func FuzzCheck(f *testing.F) {
	for parts := 2; parts <= 4; parts++ {
		x := ordinary(parts)
		b := []byte{byte(x.Frame), byte(x.Trial), byte(parts), byte(parts), 4}
		for _, p := range x.Parts {
			b = append(b, byte(p.Mem), byte(p.Fuel), 0)
		}
		for _, w := range x.Windows {
			b = append(b, byte(w.Part), byte(w.From), byte(w.Long))
		}
		for _, c := range x.Channels {
			b = append(b, byte(c.From), byte(c.To), byte(c.Depth))
		}
		for part := range parts {
			i := fitting(x, part)
			f.Add(b, part, i.Version, 0, i.Mem, i.Fuel, i.Sends, i.Receives, i.Code, 299)
		}
	}
	f.Fuzz(func(t *testing.T, b []byte, part, version, hard, mem, fuel, sends, receives int, code []byte, than int) {
		n := &numbers{b}
		x := n.table()
		i := api.Image{Part: part, Version: version, Hard: hard, Mem: mem, Fuel: fuel, Sends: sends, Receives: receives, Code: code}
		for _, y := range []api.Table{x, ordinary(2), ordinary(4)} {
			for _, p := range []int{part, n.next()} {
				judge(t, "fuzz", y, p, i, than, wanted(y, p, i, than))
				from, to := 0, 0
				if table.Right(y) {
					from, to = ends(y, p)
				}
				judgeEnds(t, "fuzz", y, p, from, to)
			}
		}
	})
}
