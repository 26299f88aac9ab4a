package link_test

import (
	"math"
	"math/rand/v2"
	"slices"
	"strings"
	"testing"

	"longeron/api"
	"longeron/link"
)

const most = 32 // frames on a way, as the chapter has it

// far are numbers of no way and no frame: the least and the greatest, and such of which fewer bits would be the number of one.
var far = []int{
	math.MinInt, math.MinInt + 1, -1 << 62, -1<<32 - 1, -1 << 32, -1<<32 + 1, math.MinInt32, -1 << 16, -257, -256, -255, -128, -33, -32, -31, -3, -2, -1,
	64, 128, 256, 257, 1 << 16, 1<<16 + 1, math.MaxInt32, 1 << 32, 1<<32 + 1, 1 << 62, math.MaxInt - 1, math.MaxInt,
}

// noWays are numbers of no way.
var noWays = append([]int{2, 3, 31, 32}, far...)

// numbers are those of frames that are asked for where there are so many: of frames that are there, at either end and in the midst, and of frames that aren't.
func numbers(many int) []int {
	l := append([]int{0, 1, 2, many / 2, many - 2, many - 1, many, many + 1, 31, 32, 33}, far...)
	slices.Sort(l)
	return slices.Compact(l)
}

// call is one of the calls, and what it was handed.
type call struct {
	what  string
	bytes string
	ns    [4]int
}

// pair is a Link, and what is on its ways as the chapter's words have it.
type pair struct {
	t     *testing.T
	link  *link.Link
	ways  [2][]string
	story []call // the calls so far
}

// begin makes a Link with nothing on its way.
func begin(t *testing.T) *pair {
	t.Helper()
	p := &pair{t: t, link: link.New()}
	if p.link == nil {
		t.Fatal("New: nil")
	}
	p.judge()
	return p
}

// filled is one with so many frames on each way, each another one, of several lengths.
func filled(t *testing.T, many, others int) *pair {
	t.Helper()
	p := begin(t)
	p.fill(0, many)
	p.fill(1, others)
	p.story = nil
	return p
}

// fill sends so many frames, the n-th one of n bytes or so.
func (p *pair) fill(way, many int) {
	p.t.Helper()
	for n := range many {
		p.send(way, frame(way, n))
	}
}

// frame is one of many, each of which is another one.
func frame(way, n int) string {
	return strings.Repeat(string([]byte{byte(40*way + n), byte(255 - n)}), n%5+1)[n%2:]
}

func (p *pair) wrong(what string, got, want any) {
	p.t.Helper()
	p.t.Fatalf("behind %v, %s: %v, want %v", p.story, what, got, want)
}

// judge says whether each way has as many frames as it should, and each of them as many bytes: a byte that is there may be spoilt by nothing, and stays as it is.
func (p *pair) judge() {
	p.t.Helper()
	for way, frames := range p.ways {
		if n := p.link.Len(way); n != len(frames) {
			p.wrong("Len", n, len(frames))
		}
		for i, f := range frames {
			if e := p.link.Spoil(way, i, len(f), 0); e != api.ErrArg {
				p.wrong("Spoil behind the last byte", []any{way, i, e}, api.ErrArg)
			}
			if e := p.link.Spoil(way, i, len(f)-1, 0); len(f) > 0 && e != api.OK {
				p.wrong("Spoil of the last byte", []any{way, i, e}, api.OK)
			}
		}
	}
}

// errno is what a call of that way and these frames is refused by, as the chapter's words have it.
func (p *pair) errno(way int, numbers ...int) api.Errno {
	if way != 0 && way != 1 {
		return api.ErrRange
	}
	for _, n := range numbers {
		if n < 0 || n >= len(p.ways[way]) {
			return api.ErrNone
		}
	}
	return api.OK
}

// told holds what a call answered against what it should, and keeps the call in the story.
func (p *pair) told(c call, got, want api.Errno) {
	p.t.Helper()
	p.story = append(p.story, c)
	if got != want {
		p.wrong("it", got, want)
	}
	p.judge()
}

func (p *pair) send(way int, f string) {
	p.t.Helper()
	got, want := p.link.Send(way, []byte(f)), p.errno(way)
	if want == api.OK && len(p.ways[way]) == most {
		want = api.ErrFull
	}
	if want == api.OK {
		p.ways[way] = append(p.ways[way], f)
	}
	p.told(call{"Send", f, [4]int{way}}, got, want)
}

// take answers what Take did.
func (p *pair) take(way int) []byte {
	p.t.Helper()
	got, is := p.link.Take(way)
	want, wantIs := "", p.errno(way, 0) == api.OK
	if wantIs {
		want = p.ways[way][0]
		p.ways[way] = slices.Delete(p.ways[way], 0, 1)
	}
	p.story = append(p.story, call{"Take", "", [4]int{way}})
	if string(got) != want || is != wantIs {
		p.wrong("it", []any{got, is}, []any{[]byte(want), wantIs})
	}
	p.judge()
	return got
}

func (p *pair) lose(way, i int) {
	p.t.Helper()
	got, want := p.link.Lose(way, i), p.errno(way, i)
	if want == api.OK {
		p.ways[way] = slices.Delete(p.ways[way], i, i+1)
	}
	p.told(call{"Lose", "", [4]int{way, i}}, got, want)
}

func (p *pair) twice(way, i int) {
	p.t.Helper()
	got, want := p.link.Twice(way, i), p.errno(way, i)
	if want == api.OK && len(p.ways[way]) == most {
		want = api.ErrFull
	}
	if want == api.OK {
		p.ways[way] = append(p.ways[way], p.ways[way][i])
	}
	p.told(call{"Twice", "", [4]int{way, i}}, got, want)
}

func (p *pair) swap(way, i, k int) {
	p.t.Helper()
	got, want := p.link.Swap(way, i, k), p.errno(way, i, k)
	if want == api.OK {
		l := p.ways[way]
		l[i], l[k] = l[k], l[i]
	}
	p.told(call{"Swap", "", [4]int{way, i, k}}, got, want)
}

func (p *pair) spoil(way, i, at, by int) {
	p.t.Helper()
	got, want := p.link.Spoil(way, i, at, by), p.errno(way, i)
	if want == api.OK && (at < 0 || at >= len(p.ways[way][i])) {
		want = api.ErrArg
	}
	if want == api.OK {
		p.ways[way][i] = spoilt(p.ways[way][i], at, by)
	}
	p.told(call{"Spoil", "", [4]int{way, i, at, by}}, got, want)
}

// spoilt is a frame with by added to its byte at. What by is modulo 256 is told by division, and brought above 0.
func spoilt(f string, at, by int) string {
	added := int(f[at]) + by%256 + 256
	return f[:at] + string([]byte{byte(added % 256)}) + f[at+1:]
}

// drain takes all frames of both ways, turn by turn, and one more.
func (p *pair) drain() {
	p.t.Helper()
	for len(p.ways[0])+len(p.ways[1]) > 0 {
		p.take(1)
		p.take(0)
	}
	p.take(0)
	p.take(1)
}

// some is the number of a frame that is there, most often, or one close by.
func (p *pair) some(r *rand.Rand, way int) int {
	switch {
	case r.IntN(30) == 0:
		return far[r.IntN(len(far))]
	case (way == 0 || way == 1) && len(p.ways[way]) > 0 && r.IntN(12) > 0:
		return r.IntN(len(p.ways[way]))
	}
	return r.IntN(36) - 2
}

// place is that of a byte that is there, most often, or one close by.
func (p *pair) place(r *rand.Rand, way, i int) int {
	if p.errno(way, i) == api.OK && len(p.ways[way][i]) > 0 && r.IntN(12) > 0 {
		return r.IntN(len(p.ways[way][i]))
	}
	return r.IntN(12) - 2
}

// step does a call at random. Of eight that change how many frames there are so many put one there, the others take one off; and there are as many that change the frames themselves.
func (p *pair) step(r *rand.Rand, puts int) {
	p.t.Helper()
	way := r.IntN(2)
	if r.IntN(40) == 0 {
		way = noWays[r.IntN(len(noWays))]
	}
	i, other := p.some(r, way), r.IntN(3) == 0
	switch what := r.IntN(16); {
	case what < puts && other:
		p.twice(way, i)
	case what < puts:
		p.send(way, text(r, r.IntN(9)))
	case what < 8 && other:
		p.lose(way, i)
	case what < 8:
		p.take(way)
	case what < 12:
		p.swap(way, i, p.some(r, way))
	default:
		p.spoil(way, i, p.place(r, way, i), added(r))
	}
}

// text is so many bytes at random.
func text(r *rand.Rand, long int) string {
	b := make([]byte, long)
	for n := range b {
		b[n] = byte(r.Uint32())
	}
	return string(b)
}

// added is what a byte may be spoilt by.
func added(r *rand.Rand) int {
	if r.IntN(4) == 0 {
		return int(r.Uint64())
	}
	return r.IntN(1200) - 600
}

// rows calls do with each row of so many numbers below top.
func rows(long, top int, do func(row []int)) {
	row := make([]int, long)
	for {
		do(row)
		at := 0
		for at < long && row[at] == top-1 {
			row[at] = 0
			at++
		}
		if at == long {
			return
		}
		row[at]++
	}
}

// orders calls do with each order of the numbers below n.
func orders(n int, do func(order []int)) {
	order := make([]int, n)
	var lay func(at int)
	lay = func(at int) {
		if at == n {
			do(order)
			return
		}
		for x := range n {
			if !slices.Contains(order[:at], x) {
				order[at] = x
				lay(at + 1)
			}
		}
	}
	lay(0)
}
