package image_test

import (
	"bytes"
	"crypto/sha256"
	"hash/crc32"
	"math"
	"slices"
	"testing"

	"longeron/api"
	"longeron/image"
)

// behindCode is how many bytes both sums have, and leastBytes how many an image's have.
const (
	behindCode = 36
	leastBytes = 50
)

// ordinary has a number of its own in each field, and of those of two bytes unlike bytes.
func ordinary() api.Image {
	return api.Image{Part: 2, Version: 0x012c, Hard: 0x0407, Mem: 4, Fuel: 9, Sends: 5, Receives: 10, Code: []byte("abc")}
}

// least has of everything as little as may be.
func least() api.Image {
	return api.Image{Version: 1, Mem: 1, Fuel: 1, Code: []byte{0}}
}

// full has of everything as much as may be.
func full() api.Image {
	return api.Image{Part: 3, Version: 65535, Hard: 65535, Mem: 16, Fuel: 32, Sends: 15, Receives: 15, Code: coded(96)}
}

// misleading has code that looks like the beginning of an image.
func misleading() api.Image {
	i := ordinary()
	i.Code = fieldsOf(least())
	return i
}

func rightOnes() []api.Image { return []api.Image{ordinary(), least(), full(), misleading()} }

// coded is n bytes, no two places alike in what stands around them.
func coded(n int) []byte {
	b := make([]byte, n)
	for i := range b {
		b[i] = byte(i*i*7 + i*31 + i>>8)
	}
	return b
}

func within(least, n, most int) bool { return n >= least && n <= most }

// isRight tells whether an image is right, as the chapter's words have it.
func isRight(i api.Image) bool {
	return within(0, i.Part, 3) && within(1, i.Version, 65535) && within(0, i.Hard, 65535) && within(1, i.Mem, 16) &&
		within(1, i.Fuel, 32) && within(0, i.Sends, 15) && within(0, i.Receives, 15) && within(1, len(i.Code), 96)
}

// fits tells whether an image's bytes can tell it, right or not.
func fits(i api.Image) bool {
	return within(0, i.Part, 255) && within(0, i.Version, 65535) && within(0, i.Hard, 65535) && within(0, i.Mem, 255) &&
		within(0, i.Fuel, 255) && within(0, i.Sends, 255) && within(0, i.Receives, 255) && len(i.Code) <= 65535
}

// fieldsOf are an image's bytes ahead of the digest, right or not.
func fieldsOf(i api.Image) []byte {
	b := []byte{0x4c, 0x49, byte(i.Part), byte(i.Version >> 8), byte(i.Version), byte(i.Hard >> 8), byte(i.Hard),
		byte(i.Mem), byte(i.Fuel), byte(i.Sends), byte(i.Receives), byte(len(i.Code) >> 8), byte(len(i.Code))}
	return append(b, i.Code...)
}

// summed are the bytes, and both their sums behind them.
func summed(b []byte) []byte {
	digest := sha256.Sum256(b)
	b = slices.Concat(b, digest[:])
	sum := crc32.ChecksumIEEE(b)
	return append(b, byte(sum>>24), byte(sum>>16), byte(sum>>8), byte(sum))
}

func bytesOf(i api.Image) []byte { return summed(fieldsOf(i)) }

func equal(a, b api.Image) bool {
	return a.Part == b.Part && a.Version == b.Version && a.Hard == b.Hard && a.Mem == b.Mem && a.Fuel == b.Fuel &&
		a.Sends == b.Sends && a.Receives == b.Receives && string(a.Code) == string(b.Code)
}

func copied(i api.Image) api.Image {
	i.Code = slices.Clone(i.Code)
	return i
}

// fields are where an image's numbers stand, and their bounds.
var fields = []struct {
	what        string
	least, most int
	of          func(i *api.Image) *int
}{
	{"Part", 0, 3, func(i *api.Image) *int { return &i.Part }},
	{"Version", 1, 65535, func(i *api.Image) *int { return &i.Version }},
	{"Hard", 0, 65535, func(i *api.Image) *int { return &i.Hard }},
	{"Mem", 1, 16, func(i *api.Image) *int { return &i.Mem }},
	{"Fuel", 1, 32, func(i *api.Image) *int { return &i.Fuel }},
	{"Sends", 0, 15, func(i *api.Image) *int { return &i.Sends }},
	{"Receives", 0, 15, func(i *api.Image) *int { return &i.Receives }},
}

// refused says whether Get and Digest refuse the bytes with that error.
func refused(t *testing.T, what string, b []byte, want api.Errno) {
	t.Helper()
	if i, e := image.Get(b); !equal(i, api.Image{}) || e != want {
		t.Errorf("%s: Get of %x: %v, %v; want %v", what, b, i, e, want)
	}
	if d := image.Digest(b); d != [32]byte{} {
		t.Errorf("%s: Digest of %x: %x", what, b, d)
	}
}

// taken says whether Get and Digest answer what is in the bytes.
func taken(t *testing.T, what string, b []byte, want api.Image) {
	t.Helper()
	if i, e := image.Get(b); !equal(i, want) || e != api.OK {
		t.Errorf("%s: Get of %x: %v, %v; want %v", what, b, i, e, want)
	}
	if d, want := image.Digest(b), [32]byte(b[len(b)-36:len(b)-4]); d != want {
		t.Errorf("%s: Digest of %x: %x, want %x", what, b, d, want)
	}
}

// judge says whether each call takes i for what it is.
func judge(t *testing.T, what string, i api.Image, want bool) {
	t.Helper()
	if isRight(i) != want {
		t.Fatalf("%s: the test's own words don't make it %v", what, want)
	}
	if got := image.Right(i); got != want {
		t.Errorf("%s: Right of %v: %v", what, i, got)
	}
	b, e := image.Put(i)
	switch {
	case want && (!bytes.Equal(b, bytesOf(i)) || e != api.OK):
		t.Errorf("%s: Put of %v: %x, %v; want %x", what, i, b, e, bytesOf(i))
	case !want && (len(b) != 0 || e != api.ErrRange):
		t.Errorf("%s: Put of %v: %x, %v", what, i, b, e)
	}
	if want {
		taken(t, what, bytesOf(i), i)
	} else if fits(i) {
		refused(t, what, bytesOf(i), api.ErrRange)
	}
	if !image.Same(i, copied(i)) {
		t.Errorf("%s: %v isn't the same as itself", what, i)
	}
}

// P6.1: what is right.

func TestOrdinary(t *testing.T) {
	for _, i := range rightOnes() {
		judge(t, "right", i, true)
	}
	judge(t, "nothing", api.Image{}, false)
}

// Each number by itself: just within and just beyond its bounds, far beyond them, and where one of fewer bits would be within.
func TestBounds(t *testing.T) {
	far := []int{math.MinInt, math.MinInt + 1, -1 << 32, -65536, -256, -1, 0, 255, 256, 65535, 65536, 1 << 32, math.MaxInt - 1, math.MaxInt}
	for _, f := range fields {
		values := append([]int{f.least - 1, f.least, f.least + 1, f.most - 1, f.most, f.most + 1, 2*f.most + 1, -f.least, -f.most}, far...)
		for _, bits := range []int{8, 16, 32} {
			values = append(values, f.least+1<<bits, f.most+1<<bits, f.least-1<<bits)
		}
		for _, i := range rightOnes() {
			for _, n := range values {
				*f.of(&i) = n
				judge(t, f.what, i, within(f.least, n, f.most))
			}
		}
	}
}

func TestCode(t *testing.T) {
	for _, i := range rightOnes() {
		for _, n := range []int{0, 1, 2, 15, 16, 95, 96, 97, 98, 160, 255, 256, 257, 352, 65535, 65536, 65537, 65632, 1 << 20} {
			i.Code = coded(n)
			judge(t, "code", i, 1 <= n && n <= 96)
		}
	}
}

// Two wrong numbers don't make a right one.
func TestTwoWrong(t *testing.T) {
	for _, f := range fields {
		for _, g := range fields {
			i := ordinary()
			*f.of(&i) = f.most + 1
			*g.of(&i) = g.least - 1
			judge(t, f.what+" "+g.what, i, false)
			i.Code = nil
			judge(t, f.what+" "+g.what+" code", i, false)
		}
	}
}

// P6.1: bytes.

func TestBytes(t *testing.T) {
	for _, c := range []struct {
		i    api.Image
		want string
	}{
		{ordinary(), "LI\x02\x01\x2c\x04\x07\x04\x09\x05\x0a\x00\x03abc"},
		{least(), "LI\x00\x00\x01\x00\x00\x01\x01\x00\x00\x00\x01\x00"},
		{full(), "LI\x03\xff\xff\xff\xff\x10\x20\x0f\x0f\x00\x60" + string(coded(96))},
	} {
		b, e := image.Put(c.i)
		if e != api.OK || len(b) != len(c.want)+behindCode || string(b[:len(c.want)]) != c.want {
			t.Errorf("Put: %x, %v; want %x ahead", b, e, c.want)
		}
		taken(t, "by hand", summed([]byte(c.want)), c.i)
	}
}

// The whole of the least image's bytes, sums too, as they were told elsewhere.
func TestKnownBytes(t *testing.T) {
	want := slices.Concat([]byte("\x4c\x49\x00\x00\x01\x00\x00\x01\x01\x00\x00\x00\x01\x00"), knownSums())
	if b, e := image.Put(least()); !bytes.Equal(b, want) || e != api.OK {
		t.Errorf("Put: %x, %v; want %x", b, e, want)
	}
	taken(t, "known", want, least())
	if d := image.Digest(want); !bytes.Equal(d[:], knownSums()[:32]) {
		t.Errorf("Digest: %x", d)
	}
}

// knownSums are those behind the least image's fields.
func knownSums() []byte {
	return []byte("\x6f\xec\x4b\x8a\xcf\x46\x90\x1b\x01\x4e\xb9\x85\x39\x73\x1c\x55" +
		"\x31\x30\xf6\x9e\xc6\x34\xfc\x4d\x19\x68\x00\xc9\x7f\xbc\x81\xdc" +
		"\x2f\x82\xe5\x2c")
}

func TestHowManyBytes(t *testing.T) {
	for n := 1; n <= 96; n++ {
		i := ordinary()
		i.Code = coded(n)
		b, e := image.Put(i)
		if len(b) != leastBytes-1+n || len(b) > api.MaxImage || e != api.OK {
			t.Errorf("%d bytes of code: %d bytes, %v", n, len(b), e)
		}
	}
}

// Bytes that are cut are too few, or their sums aren't right.
func TestGetOfBytesThatAreCut(t *testing.T) {
	for _, i := range rightOnes() {
		b := bytesOf(i)
		for n := range b {
			want := api.ErrEnd
			if n >= behindCode {
				want = api.ErrDigest
			}
			refused(t, "cut behind", b[:n], want)
			refused(t, "cut behind, no room", slices.Clone(b[:n]), want)
			refused(t, "cut ahead", b[len(b)-n:], want)
		}
	}
}

// Fewer than 36 bytes are too few, whatever they are; of 36 it is the sums that count.
func TestGetOfFewBytes(t *testing.T) {
	for n := range 40 {
		want := api.ErrEnd
		if n >= behindCode {
			want = api.ErrDigest
		}
		for _, b := range [][]byte{make([]byte, n), bytes.Repeat([]byte{0xff}, n), bytes.Repeat([]byte("LI"), n)[:n], summed(nil)[:min(n, 36)]} {
			if len(b) == n && !bytes.Equal(b, summed(nil)) {
				refused(t, "few", b, want)
			}
		}
	}
	refused(t, "none", nil, api.ErrEnd)
	refused(t, "empty", []byte{}, api.ErrEnd)
	refused(t, "both sums of nothing", summed(nil), api.ErrForm)
}

// Bytes with more behind them have their sums at the wrong place.
func TestGetOfBytesWithMoreBehind(t *testing.T) {
	for _, i := range rightOnes() {
		b := bytesOf(i)
		for _, more := range [][]byte{{0}, {0xff}, make([]byte, 4), make([]byte, 36), bytes.Repeat([]byte{0xff}, 300), b} {
			refused(t, "more behind", slices.Concat(b, more), api.ErrDigest)
			refused(t, "more ahead", slices.Concat(more, b), api.ErrDigest)
		}
	}
}

// Any one byte, turned to each other value.
func TestGetOfTurnedBytes(t *testing.T) {
	for _, i := range rightOnes() {
		b := bytesOf(i)
		for at := range b {
			for n := 1; n < 256; n++ {
				c := slices.Clone(b)
				c[at] ^= byte(n)
				refused(t, "turned", c, api.ErrDigest)
			}
		}
	}
}

// Any two bytes, turned in one bit each.
func TestGetOfTwoTurnedBytes(t *testing.T) {
	b := bytesOf(ordinary())
	for one := range 8 * len(b) {
		for two := range one {
			c := slices.Clone(b)
			c[one/8] ^= 1 << (one % 8)
			c[two/8] ^= 1 << (two % 8)
			refused(t, "turned twice", c, api.ErrDigest)
		}
	}
}

// resummed are the bytes with the sum of those ahead of it, whatever the digest is.
func resummed(b []byte) []byte {
	b = slices.Clone(b[:len(b)-4])
	sum := crc32.ChecksumIEEE(b)
	return append(b, byte(sum>>24), byte(sum>>16), byte(sum>>8), byte(sum))
}

// The sum is right, and the digest isn't.
func TestGetOfWrongDigest(t *testing.T) {
	for _, i := range rightOnes() {
		b := bytesOf(i)
		for at := range len(b) - 4 {
			for bit := range 8 {
				c := slices.Clone(b)
				c[at] ^= 1 << bit
				refused(t, "the sum is right", resummed(c), api.ErrDigest)
			}
		}
		for _, other := range [][]byte{nil, []byte("x"), b, b[:len(b)-36][1:]} { // the digest of other bytes
			d := sha256.Sum256(other)
			c := slices.Concat(b[:len(b)-36], d[:], b[len(b)-4:])
			refused(t, "another digest", resummed(c), api.ErrDigest)
		}
		c := slices.Clone(b)
		clear(c[len(c)-36:])
		refused(t, "zeros for a digest", resummed(c), api.ErrDigest)
	}
}

// The digest is right, and the sum isn't: of the fields alone, turned about, put from its lowest byte on, or zero.
func TestGetOfWrongSum(t *testing.T) {
	for _, i := range rightOnes() {
		b := bytesOf(i)
		fields, digested, sum := b[:len(b)-36], b[:len(b)-4], slices.Clone(b[len(b)-4:])
		alone := crc32.ChecksumIEEE(fields)
		turned := slices.Clone(sum)
		for n := range turned {
			turned[n] = ^turned[n]
		}
		about := slices.Clone(sum)
		slices.Reverse(about)
		for _, wrong := range [][]byte{{byte(alone >> 24), byte(alone >> 16), byte(alone >> 8), byte(alone)}, turned, about, make([]byte, 4)} {
			refused(t, "the digest is right", slices.Concat(digested, wrong), api.ErrDigest)
		}
		refused(t, "the sum ahead of the digest", slices.Concat(fields, sum, b[len(b)-36:len(b)-4]), api.ErrDigest)
	}
}

// Both sums are right from here on.

func TestGetOfAnotherMark(t *testing.T) {
	for _, i := range rightOnes() {
		b := fieldsOf(i)
		for at := range 2 {
			for n := 1; n < 256; n++ {
				c := slices.Clone(b)
				c[at] ^= byte(n)
				refused(t, "another mark", summed(c), api.ErrForm)
			}
		}
		refused(t, "turned about", summed(slices.Concat([]byte("IL"), b[2:])), api.ErrForm)
		refused(t, "a record's", summed(slices.Concat([]byte("LC"), b[2:])), api.ErrForm)
		refused(t, "no mark", summed(b[2:]), api.ErrForm)
		refused(t, "half a mark", summed(b[1:]), api.ErrForm)
		refused(t, "a byte ahead", summed(slices.Concat([]byte{0}, b)), api.ErrForm)
		refused(t, "small letters", summed(slices.Concat([]byte("li"), b[2:])), api.ErrForm)
	}
}

// Fields that end within: ahead of the mark's end it isn't there.
func TestGetOfFieldsThatEnd(t *testing.T) {
	for _, i := range append(rightOnes(), api.Image{Part: 255, Code: []byte{1, 2}}) {
		b := fieldsOf(i)
		for n := range b {
			want := api.ErrEnd
			if n < 2 {
				want = api.ErrForm
			}
			refused(t, "fields end", summed(b[:n]), want)
		}
	}
}

// withLength is an image's fields that tell another length of the code.
func withLength(i api.Image, n int) []byte {
	b := fieldsOf(i)
	b[11], b[12] = byte(n>>8), byte(n)
	return b
}

func TestGetOfAnotherLength(t *testing.T) {
	for _, i := range append(rightOnes(), api.Image{Mem: 99, Code: coded(300)}) {
		for _, n := range []int{0, 1, 2, 3, 4, 13, 14, 15, 95, 96, 97, 255, 256, 257, 299, 300, 301, 65534, 65535} {
			switch {
			case n > len(i.Code):
				refused(t, "too great a length", summed(withLength(i, n)), api.ErrEnd)
			case n < len(i.Code):
				refused(t, "too small a length", summed(withLength(i, n)), api.ErrForm)
			}
		}
	}
}

func TestGetOfMoreBehindCode(t *testing.T) {
	wrong := ordinary()
	wrong.Version, wrong.Part, wrong.Code = 0, 255, nil
	for _, i := range append(rightOnes(), wrong) {
		b := fieldsOf(i)
		for _, more := range [][]byte{{0}, {0xff}, make([]byte, 36), coded(300), b, summed(b)[len(b):]} {
			refused(t, "more behind the code", summed(slices.Concat(b, more)), api.ErrForm)
		}
	}
}

// The longest text of all is read: that it is too long is the image's fault.
func TestGetOfLongCode(t *testing.T) {
	for _, n := range []int{97, 255, 256, 65534, 65535} {
		i := ordinary()
		i.Code = coded(n)
		b := fieldsOf(i)
		refused(t, "long code", summed(b), api.ErrRange)
		refused(t, "long code that ends", summed(b[:len(b)-1]), api.ErrEnd)
		refused(t, "long code and more", summed(append(b, 0)), api.ErrForm)
	}
}

// Whatever stands at one place of right fields, the image is what they tell, or none.
func TestGetOfEachByte(t *testing.T) {
	for _, i := range rightOnes() {
		b := fieldsOf(i)
		for at := range b {
			for n := range 256 {
				c := slices.Clone(b)
				c[at] = byte(n)
				got(t, summed(c))
			}
		}
	}
}

// got says whether the bytes are taken for what they are: read here place by place.
func got(t *testing.T, b []byte) {
	t.Helper()
	if len(b) < 36 {
		refused(t, "got", b, api.ErrEnd)
		return
	}
	c := b[:len(b)-36]
	if !bytes.Equal(summed(c), b) {
		refused(t, "got", b, api.ErrDigest)
		return
	}
	if len(c) < 2 || c[0] != 0x4c || c[1] != 0x49 {
		refused(t, "got", b, api.ErrForm)
		return
	}
	if len(c) < 13 || len(c)-13 < int(c[11])*256+int(c[12]) {
		refused(t, "got", b, api.ErrEnd)
		return
	}
	if len(c)-13 > int(c[11])*256+int(c[12]) {
		refused(t, "got", b, api.ErrForm)
		return
	}
	i := api.Image{Part: int(c[2]), Version: int(c[3])*256 + int(c[4]), Hard: int(c[5])*256 + int(c[6]), Mem: int(c[7]),
		Fuel: int(c[8]), Sends: int(c[9]), Receives: int(c[10]), Code: c[13:]}
	if !isRight(i) {
		refused(t, "got", b, api.ErrRange)
		return
	}
	taken(t, "got", b, i)
	if d, e := image.Put(i); e != api.OK || !bytes.Equal(b, d) {
		t.Errorf("Put of what was got of %x: %x, %v", b, d, e)
	}
}

// P6.2.

func TestDigest(t *testing.T) {
	for _, i := range rightOnes() {
		b := bytesOf(i)
		if d, want := image.Digest(b), sha256.Sum256(fieldsOf(i)); d != want {
			t.Errorf("%x: %x, want %x", b, d, want)
		}
	}
	a, b := ordinary(), ordinary()
	b.Version++
	if image.Digest(bytesOf(a)) == image.Digest(bytesOf(b)) {
		t.Error("of two versions it is one")
	}
}

// The digest of bytes of which the sums are right, but which tell no image.
func TestDigestOfWhatIsRefused(t *testing.T) {
	wrong := ordinary()
	wrong.Mem = 17
	b := fieldsOf(ordinary())
	for _, c := range [][]byte{nil, {0}, b[:5], b[:len(b)-1], append(slices.Clone(b), 0), b[2:], fieldsOf(wrong), fieldsOf(api.Image{})} {
		if d := image.Digest(summed(c)); d != [32]byte{} {
			t.Errorf("%x: %x", c, d)
		}
	}
	for _, c := range [][]byte{nil, {}, {1}, make([]byte, 32), make([]byte, 35), make([]byte, 36), make([]byte, 50), coded(200)} {
		if d := image.Digest(c); d != [32]byte{} {
			t.Errorf("%x: %x", c, d)
		}
	}
}

func TestSame(t *testing.T) {
	ones := append(rightOnes(), api.Image{}, api.Image{Part: -1, Version: math.MaxInt, Code: coded(300)})
	for n, a := range ones {
		for m, b := range ones {
			if image.Same(a, copied(b)) != (n == m) {
				t.Errorf("%v and %v", a, b)
			}
		}
	}
}

// Alike but for one field: near and far, right or not, and where of fewer bits they are alike.
func TestSameButForOneField(t *testing.T) {
	for _, f := range fields {
		for _, a := range append(rightOnes(), api.Image{}) {
			for _, n := range []int{1, -1, 2, 256, 65536, 1 << 32, -1 << 32, math.MinInt} {
				b := copied(a)
				*f.of(&b) += n
				if image.Same(a, b) || image.Same(b, a) {
					t.Errorf("%s: %v and %v", f.what, a, b)
				}
			}
		}
	}
	for _, a := range append(rightOnes(), api.Image{Code: coded(300)}) {
		for n := range a.Code {
			b := copied(a)
			b.Code[n] ^= 1
			c := copied(a)
			c.Code = c.Code[:n]
			if image.Same(a, b) || image.Same(b, a) || image.Same(a, c) || image.Same(c, a) {
				t.Errorf("code that differs at %d: %v", n, a)
			}
		}
		b := copied(a)
		b.Code = append(b.Code, 0)
		if image.Same(a, b) || image.Same(b, a) {
			t.Errorf("longer code: %v", a)
		}
	}
}

// Two fields that are changed for one another are two fields.
func TestSameOfFieldsThatAreChanged(t *testing.T) {
	for n, f := range fields {
		for _, g := range fields[:n] {
			a, b := api.Image{Code: []byte{1}}, api.Image{Code: []byte{1}}
			*f.of(&a), *g.of(&b) = 1, 1
			if image.Same(a, b) {
				t.Errorf("%s and %s", f.what, g.what)
			}
			*f.of(&b) = 1
			*g.of(&a) = 1
			if !image.Same(a, b) {
				t.Errorf("%s and %s are alike", f.what, g.what)
			}
		}
	}
}

// P6.3.

func TestWhatIsPutIsGot(t *testing.T) {
	for n := range 2000 {
		i := api.Image{Part: n % 4, Version: 1 + n*331%65535, Hard: n * 77 % 65536, Mem: 1 + n%16, Fuel: 1 + n%32,
			Sends: n % 16, Receives: n / 16 % 16, Code: coded(n + 96)[n : n+1+n%96]}
		judge(t, "put", i, true)
		b, _ := image.Put(i)
		if x, e := image.Get(b); !equal(x, i) || !image.Same(x, i) || e != api.OK {
			t.Errorf("%v: got %v, %v", i, x, e)
		}
	}
}

// Each number of each field, through both calls.
func TestEachNumberIsPutAndGot(t *testing.T) {
	for _, f := range fields {
		for n := f.least; n <= f.most; n += 1 + f.most/300 {
			i := least()
			*f.of(&i) = n
			b, _ := image.Put(i)
			if x, e := image.Get(b); !equal(x, i) || e != api.OK {
				t.Errorf("%s %d: got %v, %v", f.what, n, x, e)
			}
		}
	}
}

// Bytes that are turned are got again, if both sums are right for them.
func TestTurnedBytesWithRightSums(t *testing.T) {
	i, j := ordinary(), ordinary()
	j.Code[1]++
	b, _ := image.Put(i)
	b[14]++
	refused(t, "turned", b, api.ErrDigest)
	taken(t, "turned, and summed", summed(b[:len(b)-36]), j)
}

// The rules. R1: each call ends, and none panics, at all arguments.

func TestWildImages(t *testing.T) {
	wild := []int{math.MinInt, -1, 0, 1, math.MaxInt}
	for _, a := range wild {
		for _, b := range wild {
			i := api.Image{Part: a, Version: b, Hard: a, Mem: b, Fuel: a, Sends: b, Receives: a, Code: []byte{1}}
			judge(t, "wild", i, isRight(i))
			i.Code = nil
			judge(t, "wild, no code", i, false)
		}
	}
}

func TestLongBytes(t *testing.T) {
	for _, b := range [][]byte{make([]byte, 1<<20), bytes.Repeat([]byte{0xff}, 1<<20+1), bytes.Repeat([]byte("LI"), 1<<19)} {
		got(t, b)
		got(t, summed(b))
		got(t, summed(slices.Concat([]byte("LI"), b)))
	}
}

// R2: of several errors the one that P6.1 names first is told.
func TestErrorsInOrder(t *testing.T) {
	wrong := api.Image{Part: 9, Code: []byte{1}}
	b := fieldsOf(wrong)
	unmarked := slices.Concat([]byte("XX"), b[2:])
	for _, c := range []struct {
		what string
		b    []byte
		want api.Errno
	}{
		{"too few, of wrong sums", make([]byte, 35), api.ErrEnd},
		{"wrong sums, no mark, wrong", slices.Concat(unmarked, make([]byte, 36)), api.ErrDigest},
		{"wrong sums, wrong", slices.Concat(b, make([]byte, 36)), api.ErrDigest},
		{"no mark, ending", summed(unmarked[:7]), api.ErrForm},
		{"no mark, no field", summed([]byte("XX")), api.ErrForm},
		{"no mark, more, wrong", summed(append(slices.Clone(unmarked), 0)), api.ErrForm},
		{"ending, wrong", summed(b[:len(b)-1]), api.ErrEnd},
		{"just a mark", summed([]byte("LI")), api.ErrEnd},
		{"more, wrong", summed(append(slices.Clone(b), 0)), api.ErrForm},
		{"wrong", summed(b), api.ErrRange},
	} {
		refused(t, c.what, c.b, c.want)
	}
}

// R3: nil and empty code are one.
func TestNilAndEmpty(t *testing.T) {
	a, b := ordinary(), ordinary()
	a.Code, b.Code = nil, []byte{}
	judge(t, "nil code", a, false)
	judge(t, "empty code", b, false)
	if !image.Same(a, b) || !image.Same(b, a) {
		t.Error("nil and empty code aren't the same")
	}
	refused(t, "no code", bytesOf(a), api.ErrRange)
	refused(t, "nil", nil, api.ErrEnd)
	refused(t, "empty", []byte{}, api.ErrEnd)
}

// R4: what is handed in stays as it was, the room behind it, too.
func TestChangesNothing(t *testing.T) {
	wrong := ordinary()
	wrong.Fuel = 33
	for _, i := range append(rightOnes(), wrong) {
		whole := append(slices.Clone(i.Code), bytes.Repeat([]byte{0xee}, 200)...)
		was := slices.Clone(whole)
		i.Code = whole[:len(i.Code)]
		image.Right(i)
		image.Put(i)
		image.Same(i, i)
		if !bytes.Equal(whole, was) {
			t.Errorf("code %x was %x", whole, was)
		}
		b := append(bytesOf(i), bytes.Repeat([]byte{0xee}, 200)...)
		before := slices.Clone(b)
		for n := range len(b) + 1 {
			image.Get(b[:n])
			image.Digest(b[:n])
		}
		if !bytes.Equal(b, before) {
			t.Errorf("%x was %x", b, before)
		}
	}
}

// spoil writes over all of b, spare room included.
func spoil(b []byte) {
	for i := range b[:cap(b)] {
		b[:cap(b)][i] = 0xee
	}
}

// R4: what is answered is new memory, and nothing that is handed in is kept.
func TestAnswersAreNew(t *testing.T) {
	for _, base := range rightOnes() {
		i, want := copied(base), bytesOf(base)
		b, _ := image.Put(i)
		c, _ := image.Put(i)
		spoil(b)
		if !equal(i, base) || !bytes.Equal(c, want) {
			t.Errorf("Put: %v, %x; want %v, %x", i, c, base, want)
		}
		spoil(i.Code)
		if !bytes.Equal(c, want) {
			t.Errorf("Put kept the code: %x, want %x", c, want)
		}
		d := slices.Clone(want)
		x, _ := image.Get(d)
		y, _ := image.Get(d)
		spoil(x.Code)
		if !bytes.Equal(d, want) || !equal(y, base) {
			t.Errorf("Get: %x, %v; want %x, %v", d, y, want, base)
		}
		digest := image.Digest(d)
		spoil(d)
		if !equal(y, base) || digest != sha256.Sum256(fieldsOf(base)) {
			t.Errorf("Get, or Digest, kept the bytes: %v, %x", y, digest)
		}
		judge(t, "at last", y, true)
	}
}

// R5: what was asked ahead doesn't matter, nor does the room behind what is handed in.
func TestAsksLeaveNothing(t *testing.T) {
	for range 3 {
		for _, i := range rightOnes() {
			judge(t, "again", i, true)
			wide := copied(i)
			wide.Code = append(make([]byte, 0, 300), i.Code...)
			judge(t, "with room behind", wide, true)
			b := append(make([]byte, 0, 300), bytesOf(i)...)
			taken(t, "with room behind", b, i)
			i.Mem = 17
			judge(t, "wrong between", i, false)
			refused(t, "turned between", append(b[:len(b)-1], b[len(b)-1]+1), api.ErrDigest)
		}
	}
}

// FuzzGet: whatever the bytes are, with sums of their own and without, they are taken for what they tell.
func FuzzGet(f *testing.F) {
	for _, i := range append(rightOnes(), api.Image{}) {
		b := fieldsOf(i)
		f.Add(b)
		f.Add(b[:len(b)-1])
		f.Add(append(b, 0))
		f.Add(summed(b))
	}
	f.Fuzz(func(t *testing.T, b []byte) {
		got(t, b)
		got(t, summed(b))
		got(t, summed(slices.Concat([]byte("LI"), b)))
		if len(b) >= 36 {
			got(t, resummed(b))
		}
	})
}
