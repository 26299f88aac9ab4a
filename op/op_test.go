package op_test

import (
	"bytes"
	"math"
	"slices"
	"strconv"
	"strings"
	"testing"

	"longeron/api"
	"longeron/op"
)

// far are numbers beyond all that there is, and such of which fewer bits would be within.
var far = []int{
	math.MinInt, math.MinInt + 1, -1 << 32, -1<<32 + 1, -1<<32 + 5, -65536, -65535, -257, -256, -255, -251, -19, -18, -1,
	256, 257, 258, 261, 511, 65535, 65536, 65537, 65541, 1 << 32, 1<<32 + 1, 1<<32 + 5, 1 << 62, math.MaxInt - 1, math.MaxInt,
}

// row is the chapter's instruction of a number: its name, and whether it has an argument.
type row struct {
	op   int
	name string
	has  bool
}

// rows are all that there are, as the chapter's words have them.
func rows() []row {
	return []row{
		{api.OYield, "yield", false}, {api.OPush, "push", true}, {api.ODrop, "drop", false}, {api.ODup, "dup", false},
		{api.OSwap, "swap", false}, {api.OAdd, "add", false}, {api.OSub, "sub", false}, {api.OMul, "mul", false},
		{api.OLess, "less", false}, {api.OSame, "same", false}, {api.OLoad, "load", true}, {api.OStore, "store", true},
		{api.OJump, "jump", true}, {api.OZero, "zero", true}, {api.OSend, "send", true}, {api.OGet, "get", true},
		{api.OConfirm, "confirm", false}, {api.OHalt, "halt", false}, {api.ONow, "now", false},
	}
}

// entry is an instruction, its bytes and its text.
type entry struct {
	ins  api.Ins
	code string
	text string
}

// entries are all instructions that there are, written out one by one.
func entries() []entry {
	var all []entry
	for _, r := range rows() {
		if !r.has {
			all = append(all, entry{api.Ins{Op: r.op}, string([]byte{byte(r.op)}), r.name})
			continue
		}
		for arg := range 256 {
			all = append(all, entry{api.Ins{Op: r.op, Arg: arg}, string([]byte{byte(r.op), byte(arg)}), r.name + " " + strconv.Itoa(arg)})
		}
	}
	return all
}

// some are of each Op those with the least and the greatest arguments, and such as are Ops, too, or none by one.
func some() []entry {
	args := []int{0, 1, 14, 18, 19, 127, 128, 200, 255}
	return slices.DeleteFunc(entries(), func(x entry) bool { return !slices.Contains(args, x.ins.Arg) })
}

// book finds what is written out.
type book struct {
	byIns  map[api.Ins]entry
	byCode map[string]api.Ins
	byText map[string]api.Ins
}

func written() book {
	b := book{map[api.Ins]entry{}, map[string]api.Ins{}, map[string]api.Ins{}}
	for _, x := range entries() {
		b.byIns[x.ins] = x
		b.byCode[x.code] = x.ins
		b.byText[x.text] = x.ins
	}
	return b
}

// What is written out; no test changes it.
var (
	all = written()
	few = some()
)

// TestWrittenOut holds what the other tests go by to the numbers that there must be: 12 instructions without an argument, and 7 with one of 256.
func TestWrittenOut(t *testing.T) {
	const want = 12 + 7*256
	if len(all.byIns) != want || len(all.byCode) != want || len(all.byText) != want || len(rows()) != 19 {
		t.Fatal(len(all.byIns), len(all.byCode), len(all.byText), len(rows()))
	}
	for n, r := range rows() {
		if r.op != n {
			t.Errorf("%s: %d, want %d", r.name, r.op, n)
		}
	}
}

// isRight tells whether it is one that is written out.
func isRight(i api.Ins) bool {
	_, is := all.byIns[i]
	return is
}

// bytesOf are the bytes of a row; false if one isn't right.
func bytesOf(l []api.Ins) ([]byte, bool) {
	var b []byte
	for _, i := range l {
		x, is := all.byIns[i]
		if !is {
			return nil, false
		}
		b = append(b, x.code...)
	}
	return b, true
}

// at tells the instruction at a place, by the bytes that stand there, and how many they are; none, if it is none's.
func at(code []byte, pc int) (api.Ins, int) {
	for long := 1; long <= 2; long++ {
		if pc >= 0 && pc < len(code) && long <= len(code)-pc {
			if i, is := all.byCode[string(code[pc:pc+long])]; is {
				return i, long
			}
		}
	}
	return api.Ins{}, 0
}

// split are the instructions of the code; false if it isn't one behind the other.
func split(code []byte) ([]api.Ins, bool) {
	var l []api.Ins
	for len(code) > 0 {
		i, long := at(code, 0)
		if long == 0 {
			return nil, false
		}
		l, code = append(l, i), code[long:]
	}
	return l, true
}

// judgeIns holds Right, Text and Put of one instruction to what is written out.
func judgeIns(t *testing.T, i api.Ins) {
	t.Helper()
	x, is := all.byIns[i]
	if got := op.Right(i); got != is {
		t.Errorf("Right(%v): %v", i, got)
	}
	if got, ok := op.Text(i); got != x.text || ok != is {
		t.Errorf("Text(%v): %q, %v; want %q, %v", i, got, ok, x.text, is)
	}
	judgePut(t, i)
}

func judgePut(t *testing.T, l ...api.Ins) {
	t.Helper()
	want, is := bytesOf(l)
	e := api.OK
	if !is {
		e = api.ErrOp
	}
	if b, got := op.Put(l...); !bytes.Equal(b, want) || got != e {
		t.Errorf("Put(%v): %x, %v; want %x, %v", l, b, got, want, e)
	}
}

func judgeAt(t *testing.T, code []byte, pc int) {
	t.Helper()
	want, long := at(code, pc)
	next, e := pc+long, api.OK
	if long == 0 {
		next, e = 0, api.ErrOp
	}
	if i, n, got := op.At(code, pc); i != want || n != next || got != e {
		t.Errorf("At(%x, %d): %v, %d, %v; want %v, %d, %v", code, pc, i, n, got, want, next, e)
	}
}

func judgeAll(t *testing.T, code []byte) {
	t.Helper()
	want, is := split(code)
	e := api.OK
	if !is {
		e = api.ErrOp
	}
	if l, got := op.All(code); !slices.Equal(l, want) || got != e {
		t.Errorf("All(%x): %v, %v; want %v, %v", code, l, got, want, e)
	}
}

// judgeCode holds All to what is written out, and At at each place of the code, beyond both of its ends, and far off.
func judgeCode(t *testing.T, code []byte) {
	t.Helper()
	judgeAll(t, code)
	for pc := -3; pc <= len(code)+3; pc++ {
		judgeAt(t, code, pc)
	}
	for _, pc := range []int{math.MinInt, math.MinInt + 1, -1 << 32, 1 << 32, math.MaxInt - 1, math.MaxInt} {
		judgeAt(t, code, pc)
	}
}

// judgeText holds Parse to what is written out, and what is parsed to be told as just that text.
func judgeText(t *testing.T, text string) {
	t.Helper()
	want, is := all.byText[text]
	i, ok := op.Parse(text)
	if i != want || ok != is {
		t.Errorf("Parse(%q): %v, %v; want %v, %v", text, i, ok, want, is)
	}
	if !ok {
		return
	}
	if told, right := op.Text(i); told != text || !right {
		t.Errorf("Parse(%q): %v, of which Text is %q, %v", text, i, told, right)
	}
}

// refused says whether none of these texts is one's.
func refused(t *testing.T, texts ...string) {
	t.Helper()
	for _, s := range texts {
		if _, is := all.byText[s]; is {
			t.Fatalf("%q is one's, as the test's own words have it", s)
		}
		judgeText(t, s)
	}
}

// P15.1: ordinary.

// The chapter's example.
func TestExample(t *testing.T) {
	want := []byte{1, 5, 14, 1}
	l := []api.Ins{{Op: api.OPush, Arg: 5}, {Op: api.OSend, Arg: 1}}
	if b, e := op.Put(l...); !bytes.Equal(b, want) || e != api.OK {
		t.Errorf("%x, %v", b, e)
	}
	if x, e := op.All(want); !slices.Equal(x, l) || e != api.OK {
		t.Errorf("%v, %v", x, e)
	}
	if i, next, e := op.At(want, 2); i != l[1] || next != 4 || e != api.OK {
		t.Errorf("%v, %d, %v", i, next, e)
	}
}

func TestEachAlone(t *testing.T) {
	for _, x := range entries() {
		judgeIns(t, x.ins)
		judgeCode(t, []byte(x.code))
		if l, e := op.All([]byte(x.code)); !slices.Equal(l, []api.Ins{x.ins}) || e != api.OK {
			t.Errorf("%q: %v, %v", x.text, l, e)
		}
	}
}

// Each one behind each other, and behind two of them.
func TestEachBehindEach(t *testing.T) {
	for _, a := range few {
		for _, b := range few {
			judgePut(t, a.ins, b.ins)
			judgeCode(t, []byte(a.code+b.code))
			for _, c := range rows() {
				judgePut(t, a.ins, b.ins, api.Ins{Op: c.op})
			}
		}
	}
}

// cycle are so many instructions in a row, of unlike kinds.
func cycle(many int) []api.Ins {
	var l []api.Ins
	for n := range many {
		l = append(l, few[n*31%len(few)].ins)
	}
	return l
}

func TestRows(t *testing.T) {
	for long := range 130 {
		l := cycle(long)
		judgePut(t, l...)
		code, _ := bytesOf(l)
		judgeCode(t, code)
		got, e := op.All(code)
		if !slices.Equal(got, l) || e != api.OK {
			t.Errorf("%d: %v, %v; want %v", long, got, e, l)
		}
	}
	for _, r := range rows() {
		l := slices.Repeat([]api.Ins{{Op: r.op}}, 97)
		judgePut(t, l...)
		code, _ := bytesOf(l)
		judgeCode(t, code)
	}
}

// A row far beyond what an image has.
func TestLongRow(t *testing.T) {
	l := cycle(100000)
	judgePut(t, l...)
	code, _ := bytesOf(l)
	judgeAll(t, code)
	for pc := -1; pc < len(code)+2; pc += 7 {
		judgeAt(t, code, pc)
	}
	judgePut(t, append(l, api.Ins{Op: 19})...)
	judgeAll(t, append(code, 19))
	judgeAll(t, append(code, 1))
}

// P15.1: the edges.

// No instructions have no bytes, and no code has no instructions.
func TestNone(t *testing.T) {
	for _, l := range [][]api.Ins{nil, {}, make([]api.Ins, 0, 4)} {
		if b, e := op.Put(l...); len(b) != 0 || e != api.OK {
			t.Errorf("%x, %v", b, e)
		}
	}
	for _, code := range [][]byte{nil, {}, make([]byte, 0, 4)} {
		if l, e := op.All(code); len(l) != 0 || e != api.OK {
			t.Errorf("%v, %v", l, e)
		}
		judgeCode(t, code)
	}
}

// An Op that there is not, with each Arg; and each Op with an Arg that isn't one's.
func TestEachOpWithEachArg(t *testing.T) {
	var numbers []int
	for n := -3; n <= 260; n++ {
		numbers = append(numbers, n)
	}
	numbers = append(numbers, far...)
	for _, o := range numbers {
		for _, arg := range numbers {
			i := api.Ins{Op: o, Arg: arg}
			if want := isRight(i); op.Right(i) != want {
				t.Errorf("Right(%v): %v", i, !want)
			}
			if told, is := op.Text(i); told != all.byIns[i].text || is != isRight(i) {
				t.Errorf("Text(%v): %q, %v", i, told, is)
			}
			judgePut(t, i)
		}
	}
}

// wrong are instructions that aren't right, in each way there is.
func wrong() []api.Ins {
	var l []api.Ins
	for _, n := range append([]int{19, 20, 255}, far...) {
		l = append(l, api.Ins{Op: n}, api.Ins{Op: n, Arg: 1}, api.Ins{Op: n, Arg: n})
	}
	for _, r := range rows() {
		for _, n := range far {
			l = append(l, api.Ins{Op: r.op, Arg: n})
		}
		if !r.has {
			l = append(l, api.Ins{Op: r.op, Arg: 1}, api.Ins{Op: r.op, Arg: 255})
		}
	}
	return l
}

// One that isn't right at each place of a row, and two of them.
func TestOneWrongInARow(t *testing.T) {
	for _, w := range wrong() {
		if isRight(w) {
			t.Fatalf("%v is right, as the test's own words have it", w)
		}
		for long := 1; long <= 9; long++ {
			for place := range long {
				l := cycle(long)
				l[place] = w
				judgePut(t, l...)
				l[long-1-place] = w
				judgePut(t, l...)
			}
		}
	}
}

// Each byte alone, and ahead of each other byte.
func TestEachByte(t *testing.T) {
	for a := range 256 {
		judgeCode(t, []byte{byte(a)})
		for b := range 256 {
			judgeCode(t, []byte{byte(a), byte(b)})
		}
	}
}

// Each byte behind what is right, and ahead of it.
func TestEachByteInACode(t *testing.T) {
	for _, x := range few {
		for a := range 256 {
			judgeCode(t, []byte(x.code+string([]byte{byte(a)})))
			judgeCode(t, []byte(string([]byte{byte(a)})+x.code))
			judgeCode(t, []byte(x.code+string([]byte{byte(a)})+x.code))
		}
	}
}

// Code that ends within an instruction is refused, though all ahead of it are right, and though At tells these.
func TestEndsWithin(t *testing.T) {
	for _, r := range rows() {
		for ahead := range 100 {
			code, _ := bytesOf(cycle(ahead))
			code = append(code, byte(r.op))
			judgeCode(t, code)
			if _, e := op.All(code); (e == api.ErrOp) != r.has {
				t.Errorf("%x: %v", code, e)
			}
			if _, _, e := op.At(code, len(code)-1); (e == api.ErrOp) != r.has {
				t.Errorf("%x: %v", code, e)
			}
		}
	}
}

// Code of the lengths about the greatest that an image may have, and of its bytes.
func TestLengths(t *testing.T) {
	for _, long := range []int{1, 2, api.MaxCode - 1, api.MaxCode, api.MaxCode + 1, api.MaxImage - 1, api.MaxImage, api.MaxImage + 1, 1000} {
		judgeCode(t, bytes.Repeat([]byte{api.OHalt}, long))
		judgeCode(t, bytes.Repeat([]byte{api.OPush}, long))
		judgeCode(t, bytes.Repeat([]byte{api.OPush, 255}, long)[:long])
		judgeCode(t, bytes.Repeat([]byte{0xff}, long))
		turned := bytes.Repeat([]byte{api.OAdd}, long)
		turned[long-1] = 19
		judgeCode(t, turned)
		turned[long-1], turned[0] = api.OAdd, 19
		judgeCode(t, turned)
	}
}

// What stands at a place is told by the bytes from there on, though it be within another one's.
func TestWithinAnother(t *testing.T) {
	code := []byte{api.OPush, api.OPush, api.OPush, api.ONow, api.OJump, 19}
	for pc, want := range []struct {
		ins  api.Ins
		next int
		e    api.Errno
	}{
		{api.Ins{Op: 1, Arg: 1}, 2, api.OK},
		{api.Ins{Op: 1, Arg: 1}, 3, api.OK},
		{api.Ins{Op: 1, Arg: 18}, 4, api.OK},
		{api.Ins{Op: 18}, 4, api.OK},
		{api.Ins{Op: 12, Arg: 19}, 6, api.OK},
		{api.Ins{}, 0, api.ErrOp},
		{api.Ins{}, 0, api.ErrOp},
	} {
		if i, next, e := op.At(code, pc); i != want.ins || next != want.next || e != want.e {
			t.Errorf("%d: %v, %d, %v; want %v", pc, i, next, e, want)
		}
	}
}

// P15.2.

func TestNames(t *testing.T) {
	const text = "yield, push 7, drop, dup, swap, add, sub, mul, less, same, load 7, store 7, jump 7, zero 7, send 7, get 7, confirm, halt, now"
	for n, s := range strings.Split(text, ", ") {
		want := api.Ins{Op: n}
		if strings.HasSuffix(s, " 7") {
			want.Arg = 7
		}
		if i, is := op.Parse(s); i != want || !is {
			t.Errorf("%q: %v, %v; want %v", s, i, is, want)
		}
		if told, is := op.Text(want); told != s || !is {
			t.Errorf("%v: %q, %v; want %q", want, told, is, s)
		}
	}
}

func TestEachText(t *testing.T) {
	for _, x := range entries() {
		judgeText(t, x.text)
		if i, is := op.Parse(x.text); i != x.ins || !is {
			t.Errorf("%q: %v, %v", x.text, i, is)
		}
		if told, is := op.Text(x.ins); told != x.text || !is {
			t.Errorf("%v: %q, %v", x.ins, told, is)
		}
	}
}

// judgeTurned holds each text that is one sign off to what is written out: one more of these bytes at each place, one turned, one fewer.
func judgeTurned(t *testing.T, text string, signs []byte) {
	t.Helper()
	for k := range len(text) + 1 {
		for _, s := range signs {
			judgeText(t, text[:k]+string([]byte{s})+text[k:])
			if k < len(text) {
				judgeText(t, text[:k]+string([]byte{s})+text[k+1:])
			}
		}
		if k < len(text) {
			judgeText(t, text[:k]+text[k+1:])
		}
		judgeText(t, text[:k])
		judgeText(t, text[k:])
	}
}

func TestOneSignOff(t *testing.T) {
	var every []byte
	for s := range 256 {
		every = append(every, byte(s))
	}
	for _, x := range few {
		judgeTurned(t, x.text, every)
	}
	for _, x := range entries() {
		judgeTurned(t, x.text, []byte("0159 +-._,xa\t\x00\xff"))
	}
}

// Two digits or signs more, so that numbers of up to five digits are met, with and without a 0 or a sign ahead.
func TestTwoSignsMore(t *testing.T) {
	signs := "0123456789 +-_"
	for _, x := range few {
		for _, a := range signs {
			for _, b := range signs {
				judgeText(t, x.text+string(a)+string(b))
				judgeText(t, x.text+" "+string(a)+string(b))
				if r := rows()[x.ins.Op]; r.has {
					judgeText(t, r.name+" "+string(a)+string(b))
					judgeText(t, r.name+" "+string(a)+string(b)+strconv.Itoa(x.ins.Arg))
				}
			}
		}
	}
}

// Names alone that want an argument, and names with one that want none.
func TestArguments(t *testing.T) {
	for _, r := range rows() {
		if r.has {
			refused(t, r.name, r.name+" ", r.name+"  ")
		} else {
			refused(t, r.name+" ", r.name+" 0", r.name+" 1", r.name+" 255", r.name+"0", r.name+" "+r.name)
		}
	}
}

// Numbers that are no argument, or are none's digits.
func TestNumbers(t *testing.T) {
	digits := []string{
		"00", "000", "01", "007", "0255", "00255", "256", "257", "260", "300", "511", "512", "999", "1000", "2550", "65535", "65536", "65537",
		"4294967295", "4294967296", "4294967297", "4294967551", "9223372036854775807", "9223372036854775808", "9223372036854775809",
		"18446744073709551615", "18446744073709551616", "18446744073709551617", "18446744073709551621", "36893488147419103232",
		"340282366920938463463374607431768211456", "340282366920938463463374607431768211457",
		"-0", "-1", "-5", "-255", "-256", "-9223372036854775808", "-9223372036854775809", "-18446744073709551615", "+0", "+1", "+255", "--1", "+-1",
		"0x0", "0x1", "0xff", "0b1", "0o7", "1_0", "0_1", "_1", "1_", "1e0", "1e2", "1.0", ".5", "5.", "1,", "#1", "'1'", "\"1\"", "a", "ff", "one", "nil",
		"1 ", " 1", "1 1", "1\n", "\t1", "\x001", "1\x00",
		strings.Repeat("0", 1000) + "1", strings.Repeat("9", 1000), strings.Repeat("1", 100000),
	}
	for _, r := range rows() {
		for _, d := range digits {
			refused(t, r.name+" "+d)
		}
	}
}

// Blanks and other white space, where they may not be.
func TestBlanks(t *testing.T) {
	refused(t, "", " ", "  ", "\n", "0", " 0", "5", " 5", "  5", "255")
	spaces := []string{" ", "  ", "\t", "\n", "\r", "\r\n", "\v", "\f", "\x00", "\u0085", "\u00a0", "\u2003", "\u3000", "\ufeff", ",", ", ", ";", "/"}
	for _, x := range few {
		for _, s := range spaces {
			refused(t, s+x.text, x.text+s, s+x.text+s)
			if strings.Contains(x.text, " ") && s != " " {
				refused(t, strings.Replace(x.text, " ", s, 1))
			}
			if strings.Contains(x.text, " ") {
				refused(t, strings.Replace(x.text, " ", s+" ", 1), strings.Replace(x.text, " ", " "+s, 1))
			}
		}
		if strings.Contains(x.text, " ") {
			refused(t, strings.Replace(x.text, " ", "", 1))
		}
	}
}

// Upper case, signs beyond ASCII that look or fold like those of a text, and bytes that are no UTF-8.
func TestOtherSigns(t *testing.T) {
	for _, x := range few {
		refused(t, strings.ToUpper(x.text), strings.ToUpper(x.text[:1])+x.text[1:])
		refused(t, x.text+"\u0301", "\u200b"+x.text, x.text+"\xff", "\xc3"+x.text, x.text[:1]+"\xed\xa0\x80"+x.text[1:], x.text+"\xf8\x88\x80\x80\x80")
		refused(t, x.text+", "+x.text, x.text+" "+x.text, x.text+x.text, x.text+"\n"+x.text)
	}
	refused(t, "ſwap", "ſub", "leſs", "jumр 1", "рush 1", "pushé 1", "yiеld", "nоw", "ｐｕｓｈ 1")
	refused(t, "push ١", "push ５", "push ²", "push ½", "push Ⅷ", "push 𝟏", "push ०", "push 1\u0660", "push 1\u0301", "push −1", "push \xb1", "push \xd9\xa1\xff")
}

// Other words: parts of names, rows of them, names of the language.
func TestOtherWords(t *testing.T) {
	refused(t, "y", "yiel", "yields", "pus", "pushes 1", "nop", "noop", "pop", "ret", "call 1", "div", "mod", "and", "or", "not", "xor", "more", "jmp 1", "jz 1", "put 1", "o", "OYield", "now 18", "1 5", "01 05")
	for _, a := range rows() {
		for _, b := range rows() {
			refused(t, a.name+b.name, a.name+b.name+" 1", a.name+" "+b.name, a.name+" "+b.name+" 1", a.name+" 1 "+b.name)
		}
		refused(t, strings.Repeat(a.name, 10000), a.name+strings.Repeat(" ", 10000)+"1", a.name+" 1"+strings.Repeat("0", 10000))
	}
}

// Each text of up to three of the signs of which texts are made, alone and behind a name that wants an argument.
func TestShortTexts(t *testing.T) {
	signs := []byte("abcdefghijklmnopqrstuvwxyz 0123456789-+\x00\x80")
	for _, a := range signs {
		judgeText(t, string([]byte{a}))
		judgeText(t, "get "+string([]byte{a}))
		for _, b := range signs {
			judgeText(t, string([]byte{a, b}))
			judgeText(t, "get "+string([]byte{a, b}))
			for _, c := range signs {
				judgeText(t, string([]byte{a, b, c}))
				judgeText(t, "get "+string([]byte{a, b, c}))
			}
		}
	}
}

// P15.3.

// What is put is all, and at each place where one was put is that one.
func TestPutIsAll(t *testing.T) {
	for long := range 60 {
		l := cycle(long)
		code, e := op.Put(l...)
		if e != api.OK {
			t.Fatalf("%v: %v", l, e)
		}
		if got, e := op.All(code); !slices.Equal(got, l) || e != api.OK {
			t.Errorf("%v: %v, %v", l, got, e)
		}
		pc := 0
		for _, want := range l {
			i, next, e := op.At(code, pc)
			if i != want || e != api.OK || next <= pc {
				t.Fatalf("%x, %d: %v, %d, %v; want %v", code, pc, i, next, e, want)
			}
			pc = next
		}
		if pc != len(code) {
			t.Errorf("%x: the last one ends at %d", code, pc)
		}
	}
}

// What code is all is put as just these bytes.
func TestAllIsPut(t *testing.T) {
	draw := drawn()
	met := 0
	for range 20000 {
		code := wild(draw, int(draw()%12), 21)
		l, e := op.All(code)
		if e != api.OK {
			continue
		}
		met++
		if b, e := op.Put(l...); !bytes.Equal(b, code) || e != api.OK {
			t.Errorf("%x: %v, put as %x, %v", code, l, b, e)
		}
	}
	if met < 1000 {
		t.Errorf("only %d codes were right", met)
	}
}

func TestToldIsParsed(t *testing.T) {
	for _, o := range append([]int{-1, 19, 20, 255}, far...) {
		if told, is := op.Text(api.Ins{Op: o}); told != "" || is {
			t.Errorf("%d: %q, %v", o, told, is)
		}
	}
	for o := range 19 {
		for arg := -1; arg <= 256; arg++ {
			i := api.Ins{Op: o, Arg: arg}
			told, is := op.Text(i)
			if is != op.Right(i) {
				t.Errorf("%v: %q, %v", i, told, is)
			}
			if got, parsed := op.Parse(told); is && (got != i || !parsed) {
				t.Errorf("%v: told %q, parsed %v, %v", i, told, got, parsed)
			}
		}
	}
}

// R1 to R5.

// drawn tells numbers, the same ones in each run.
func drawn() func() uint64 {
	state := uint64(0x9e3779b97f4a7c15)
	return func() uint64 {
		state ^= state << 13
		state ^= state >> 7
		state ^= state << 17
		return state
	}
}

// wild are so many bytes below most.
func wild(draw func() uint64, long, most int) []byte {
	b := make([]byte, long)
	for k := range b {
		b[k] = byte(draw() >> 20 % uint64(most))
	}
	return b
}

// R1 and R2: whatever they are given, the calls end; beside an error or a false stands nothing.
func TestWildArguments(t *testing.T) {
	draw := drawn()
	number := func() int { return int(draw()) >> (draw() % 64) }
	for range 20000 {
		i := api.Ins{Op: number(), Arg: number()}
		judgeIns(t, i)
		judgeIns(t, api.Ins{Op: i.Op & 31, Arg: i.Arg})
		judgePut(t, i, api.Ins{Op: i.Op & 31, Arg: i.Arg & 511}, i)
		code := wild(draw, int(draw()%20), 256)
		judgeAll(t, code)
		judgeAt(t, code, number())
		judgeCode(t, wild(draw, int(draw()%20), 20))
		judgeText(t, string(wild(draw, int(draw()%20), 256)))
	}
}

// R3: nil and empty rows are one, handed in and answered.
func TestEmptyRows(t *testing.T) {
	a, e := op.Put()
	b, f := op.Put([]api.Ins{}...)
	if len(a) != 0 || len(b) != 0 || e != f {
		t.Errorf("%x, %v; %x, %v", a, e, b, f)
	}
	x, e := op.All(nil)
	y, f := op.All([]byte{})
	if len(x) != 0 || len(y) != 0 || e != f {
		t.Errorf("%v, %v; %v, %v", x, e, y, f)
	}
}

// roomy are such bytes, with others behind them in their spare room.
func roomy(b []byte) []byte {
	c := append(slices.Clone(b), 0xaa, 1, 0xbb, 0)
	return c[:len(b)]
}

// R4: what is handed in isn't changed, spare room included, and what stands there doesn't matter.
func TestHandedInStays(t *testing.T) {
	for long := range 40 {
		l := append(cycle(long), api.Ins{Op: -7, Arg: -7}, api.Ins{Op: 1, Arg: 1})[:long]
		before := slices.Clone(l[:long+2])
		judgePut(t, l...)
		if !slices.Equal(l[:long+2], before) {
			t.Errorf("Put changed %v to %v", before, l[:long+2])
		}
		right, _ := bytesOf(l)
		for _, b := range [][]byte{right, append(right, api.OPush), append(right, 19)} {
			code := roomy(b)
			held := slices.Clone(code[:len(code)+4])
			judgeCode(t, code)
			if !bytes.Equal(code[:len(code)+4], held) {
				t.Errorf("%x was changed to %x", held, code[:len(code)+4])
			}
		}
	}
}

func spoil[T any](l []T, with T) {
	l = l[:cap(l)]
	for k := range l {
		l[k] = with
	}
}

// R4: what is told is memory of its own, spare room included: what is written into it, or into what was handed in, changes no answer, an earlier or a later one.
func TestMemoryOfItsOwn(t *testing.T) {
	for long := range 40 {
		l := cycle(long)
		want, _ := bytesOf(l)
		handed := slices.Clone(l)
		a, _ := op.Put(handed...)
		b, _ := op.Put(handed...)
		spoil(a, 0xee)
		if !slices.Equal(handed, l) || !bytes.Equal(b, want) {
			t.Errorf("%v: %v, %x", l, handed, b)
		}
		spoil(handed, api.Ins{Op: 19, Arg: -1})
		if !bytes.Equal(b, want) {
			t.Errorf("Put kept %v: %x", l, b)
		}
		code := slices.Clone(want)
		x, _ := op.All(code)
		y, _ := op.All(code)
		spoil(x, api.Ins{Op: 19, Arg: -1})
		if !bytes.Equal(code, want) || !slices.Equal(y, l) {
			t.Errorf("%x: %x, %v", want, code, y)
		}
		spoil(code, 0xee)
		if !slices.Equal(y, l) {
			t.Errorf("All kept %x: %v", want, y)
		}
		judgePut(t, l...)
		judgeCode(t, want)
	}
}

// told is what all calls tell, of an instruction and of bytes that are code and text, written down.
func told(i api.Ins, pc int, b []byte) string {
	var s strings.Builder
	number := func(n int) { s.WriteString(strconv.Itoa(n) + " ") }
	ins := func(i api.Ins) {
		number(i.Op)
		number(i.Arg)
	}
	truth := func(is bool) { s.WriteString(strconv.FormatBool(is) + " ") }
	truth(op.Right(i))
	code, e := op.Put(i, i)
	s.Write(code)
	number(int(e))
	at, next, e := op.At(b, pc)
	ins(at)
	number(next)
	number(int(e))
	l, e := op.All(b)
	for _, x := range l {
		ins(x)
	}
	number(int(e))
	text, is := op.Text(i)
	s.WriteString(text)
	truth(is)
	x, is := op.Parse(string(b))
	ins(x)
	truth(is)
	return s.String()
}

// asked is what the calls are asked, again and again.
type asked struct {
	ins api.Ins
	pc  int
	b   []byte
}

func questions() []asked {
	var l []asked
	for _, x := range few {
		l = append(l, asked{x.ins, 0, []byte(x.code)}, asked{x.ins, 1, []byte(x.text)}, asked{x.ins, -1, []byte(x.code + x.text)})
	}
	for k, w := range wrong() {
		l = append(l, asked{w, k, []byte{byte(w.Op), byte(w.Arg), byte(k)}})
	}
	return l
}

// R5: a call answers the same when it is made again, whatever was asked in between, in this order or in another one.
func TestAsksLeaveNothing(t *testing.T) {
	list := questions()
	first := make([]string, len(list))
	for k, q := range list {
		first[k] = told(q.ins, q.pc, q.b)
		if again := told(q.ins, q.pc, q.b); again != first[k] {
			t.Errorf("%v: %q, then %q", q, first[k], again)
		}
	}
	for k, q := range slices.Backward(list) {
		if again := told(q.ins, q.pc, q.b); again != first[k] {
			t.Errorf("%v: %q, then, behind the others, %q", q, first[k], again)
		}
	}
}

// R5: several that ask at the same time are told the same.
func TestAskedAtTheSameTime(t *testing.T) {
	const askers = 4
	list := questions()
	want := make([]string, len(list))
	for k, q := range list {
		want[k] = told(q.ins, q.pc, q.b)
	}
	answers := make(chan []string)
	for range askers {
		go func() {
			var got []string
			for _, q := range list {
				got = append(got, told(q.ins, q.pc, q.b))
			}
			answers <- got
		}()
	}
	for range askers {
		for k, got := range <-answers {
			if got != want[k] {
				t.Errorf("%v: %q, want %q", list[k], got, want[k])
			}
		}
	}
}

// FuzzOp: whatever the numbers, the code and the text are, they are taken for what is written out.
func FuzzOp(f *testing.F) {
	for _, x := range few {
		f.Add(x.ins.Op, x.ins.Arg, []byte(x.code), x.text)
		f.Add(x.ins.Op, -1, []byte(x.text), x.code)
	}
	f.Add(19, 0, []byte{}, "")
	f.Add(math.MinInt, math.MaxInt, []byte{19}, "push 256")
	f.Fuzz(func(t *testing.T, o, arg int, code []byte, text string) {
		judgeIns(t, api.Ins{Op: o, Arg: arg})
		judgePut(t, api.Ins{Op: arg, Arg: o}, api.Ins{Op: o, Arg: arg})
		judgeAll(t, code)
		judgeAt(t, code, arg)
		for pc := range code {
			judgeAt(t, code, pc)
		}
		judgeText(t, text)
	})
}
