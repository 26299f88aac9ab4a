package sha_test

import (
	"bytes"
	"crypto/sha256"
	"encoding/hex"
	"slices"
	"strings"
	"testing"

	"longeron/sha"
)

// edges are lengths at which a block, or the room behind it for how many bits there were, is just full or not.
var edges = []int{0, 1, 55, 56, 57, 63, 64, 65, 119, 120, 128}

// known are digests that were told elsewhere, those of FIPS 180-4's examples among them.
var known = []struct{ b, want string }{
	{"", "e3b0c44298fc1c149afbf4c8996fb92427ae41e4649b934ca495991b7852b855"},
	{"abc", "ba7816bf8f01cfea414140de5dae2223b00361a396177a9cb410ff61f20015ad"},
	{"abcdbcdecdefdefgefghfghighijhijkijkljklmklmnlmnomnopnopq", "248d6a61d20638b8e5c026930c3e6039a33ce45964ff2167f6ecedd419db06c1"},
	{"abcdefghbcdefghicdefghijdefghijkefghijklfghijklmghijklmnhijklmnoijklmnopjklmnopqklmnopqrlmnopqrsmnopqrstnopqrstu", "cf5b16a778af8380036ce59e7b0492370b249b11e8f07a51afac45037afee9d1"},
	{"The quick brown fox jumps over the lazy dog", "d7a8fbb307d7809469ca9abcb0082e4f8d5651e46d3cdb762d02d0bf37c9e592"},
	{"\xbd", "68325720aabd7c82f30f554b313d0570c95accbb7dc4b5aae11204c08ffe732b"},
	{"\xc9\x8c\x8e\x55", "7abc22c0ae5af26ce93dbb94433a0e0b2e119d014f8e7f65bd56c61ccccd9504"},
	{strings.Repeat("\xff", 128), "e9175db65a9789096ca9cb5524d3abc2107df03e3c9ba3af1aca628f9c5d3bd2"},

	{zeros(1), "6e340b9cffb37a989ca544e6bb780a2c78901d3fb33738768511a30617afa01d"},
	{zeros(55), "02779466cdec163811d078815c633f21901413081449002f24aa3e80f0b88ef7"},
	{zeros(56), "d4817aa5497628e7c77e6b606107042bbba3130888c5f47a375e6179be789fbb"},
	{zeros(57), "65a16cb7861335d5ace3c60718b5052e44660726da4cd13bb745381b235a1785"},
	{zeros(63), "c7723fa1e0127975e49e62e753db53924c1bd84b8ac1ac08df78d09270f3d971"},
	{zeros(64), "f5a5fd42d16a20302798ef6ed309979b43003d2320d9f0e8ea9831a92759fb4b"},
	{zeros(65), "98ce42deef51d40269d542f5314bef2c7468d401ad5d85168bfab4c0108f75f7"},
	{zeros(119), "f616b0d54e78571a9611f343c9f8e022e859e920381ab0e4d3da01e193a7bd7e"},
	{zeros(120), "6edd9f6f9cc92cded36e6c4a580933f9c9f1b90562b46903b806f21902a1a54f"},
	{zeros(128), "38723a2e5e8a17aa7950dc008209944e898f69a7bd10a23c839d341e935fd5ca"},

	{strings.Repeat("a", 1), "ca978112ca1bbdcafac231b39a23dc4da786eff8147c4e72b9807785afee48bb"},
	{strings.Repeat("a", 55), "9f4390f8d30c2dd92ec9f095b65e2b9ae9b0a925a5258e241c9f1e910f734318"},
	{strings.Repeat("a", 56), "b35439a4ac6f0948b6d6f9e3c6af0f5f590ce20f1bde7090ef7970686ec6738a"},
	{strings.Repeat("a", 57), "f13b2d724659eb3bf47f2dd6af1accc87b81f09f59f2b75e5c0bed6589dfe8c6"},
	{strings.Repeat("a", 63), "7d3e74a05d7db15bce4ad9ec0658ea98e3f06eeecf16b4c6fff2da457ddc2f34"},
	{strings.Repeat("a", 64), "ffe054fe7ae0cb6dc65c3af9b61d5209f439851db43d0ba5997337df154668eb"},
	{strings.Repeat("a", 65), "635361c48bb9eab14198e76ea8ab7f1a41685d6ad62aa9146d301d4f17eb0ae0"},
	{strings.Repeat("a", 119), "31eba51c313a5c08226adf18d4a359cfdfd8d2e816b13f4af952f7ea6584dcfb"},
	{strings.Repeat("a", 120), "2f3d335432c70b580af0e8e1b3674a7c020d683aa5f73aaaedfdc55af904c21c"},
	{strings.Repeat("a", 128), "6836cf13bac400e9105071cd6af47084dfacad4e5e302c94bfed24e013afb73e"},
}

// nothing is the digest of no bytes.
var nothing = sha256.Sum256(nil)

func zeros(n int) string { return strings.Repeat("\x00", n) }

// mixed is n bytes, no two places alike in what stands around them.
func mixed(n int) []byte {
	b := make([]byte, n)
	for i := range b {
		b[i] = byte(i*i*7 + i*31 + i>>8)
	}
	return b
}

// written is a Hash into which the pieces went.
func written(pieces ...[]byte) *sha.Hash {
	h := sha.New()
	for _, p := range pieces {
		h.Write(p)
	}
	return h
}

// check says whether h is behind just these bytes. It asks twice: asking changes nothing.
func check(t *testing.T, what string, h *sha.Hash, b []byte) {
	t.Helper()
	want := sha256.Sum256(b)
	for range 2 {
		if got := h.Sum(); got != want {
			t.Errorf("%s: Sum %x, want %x", what, got, want)
		}
		if h.Long() != len(b) {
			t.Errorf("%s: Long %d, want %d", what, h.Long(), len(b))
		}
	}
}

// P3.1.

func TestKnown(t *testing.T) {
	for _, c := range known {
		if got := sha.Of([]byte(c.b)); hex.EncodeToString(got[:]) != c.want {
			t.Errorf("Of(%q): %x, want %s", c.b, got, c.want)
		}
		if got := written([]byte(c.b)).Sum(); hex.EncodeToString(got[:]) != c.want {
			t.Errorf("Sum of %q: %x, want %s", c.b, got, c.want)
		}
	}
}

func TestSize(t *testing.T) {
	if sha.Size != 32 || len(sha.Of(nil)) != sha.Size || len(sha.New().Sum()) != sha.Size {
		t.Errorf("%d %d %d", sha.Size, len(sha.Of(nil)), len(sha.New().Sum()))
	}
}

func TestNew(t *testing.T) {
	h := sha.New()
	if h == nil {
		t.Fatal("no Hash")
	}
	check(t, "new", h, nil)
}

// The edges, with bytes of each kind: a bit more or less, where it matters, is told.
func TestEdges(t *testing.T) {
	for _, n := range edges {
		for _, b := range [][]byte{make([]byte, n), bytes.Repeat([]byte{0xff}, n), bytes.Repeat([]byte{0x80}, n), mixed(n)} {
			if got, want := sha.Of(b), sha256.Sum256(b); got != want {
				t.Errorf("Of(%x): %x, want %x", b, got, want)
			}
			check(t, "written at once", written(b), b)
		}
	}
}

func TestEachLength(t *testing.T) {
	long := mixed(700)
	for n := range len(long) + 1 {
		if got, want := sha.Of(long[:n]), sha256.Sum256(long[:n]); got != want {
			t.Errorf("Of of %d bytes: %x, want %x", n, got, want)
		}
		check(t, "written at once", written(long[:n]), long[:n])
	}
}

func TestEachByte(t *testing.T) {
	for n := range 256 {
		b := []byte{byte(n)}
		if got, want := sha.Of(b), sha256.Sum256(b); got != want {
			t.Errorf("Of(%x): %x, want %x", b, got, want)
		}
	}
}

// A bit anywhere counts, also in what stands at a block's end.
func TestEachBit(t *testing.T) {
	b := mixed(130)
	seen := map[[sha.Size]byte]bool{sha.Of(b): true}
	for i := range 8 * len(b) {
		b[i/8] ^= 1 << (i % 8)
		got := sha.Of(b)
		if got != sha256.Sum256(b) || seen[got] {
			t.Errorf("bit %d turned: %x", i, got)
		}
		seen[got] = true
		b[i/8] ^= 1 << (i % 8)
	}
}

// What is written behind Sum goes on where the bytes were, not behind what ends a digest.
func TestSumInBetween(t *testing.T) {
	long := mixed(300)
	for _, n := range []int{1, 2, 7, 55, 56, 57, 63, 64, 65, 100, 128} {
		h := sha.New()
		for at := 0; at < len(long); at += n {
			check(t, "ahead of a piece", h, long[:at])
			h.Write(long[at:min(at+n, len(long))])
		}
		check(t, "behind all", h, long)
	}
}

func TestSumAtEachPlace(t *testing.T) {
	long := mixed(200)
	for cut := range len(long) + 1 {
		h := written(long[:cut])
		check(t, "ahead", h, long[:cut])
		h.Write(long[cut:])
		check(t, "behind", h, long)
	}
}

func TestLong(t *testing.T) {
	h, want := sha.New(), 0
	for _, n := range []int{0, 1, 54, 0, 1, 8, 1, 62, 64, 128, 65, 1000, 0} {
		h.Write(make([]byte, n))
		want += n
		if h.Long() != want {
			t.Errorf("Long %d, want %d", h.Long(), want)
		}
		h.Sum()
		if h.Long() != want {
			t.Errorf("Long %d behind Sum, want %d", h.Long(), want)
		}
	}
}

// P3.2.

// Each place to cut at, the ends too, where a piece is empty.
func TestTwoPieces(t *testing.T) {
	for _, n := range append([]int{200}, edges...) {
		long := mixed(n)
		for cut := range n + 1 {
			check(t, "two pieces", written(long[:cut], long[cut:]), long)
		}
	}
}

// Pieces of each length, with empty ones ahead, between and behind.
func TestPiecesOfEachLength(t *testing.T) {
	long := mixed(270)
	for n := 1; n <= len(long); n++ {
		h := written(nil)
		for piece := range slices.Chunk(long, n) {
			h.Write(piece)
			h.Write([]byte{})
			h.Write(nil)
		}
		check(t, "pieces", h, long)
	}
}

// Three pieces, of which each begins and ends at an edge.
func TestPiecesAtTheEdges(t *testing.T) {
	for _, i := range edges {
		for _, j := range edges {
			for _, k := range edges {
				long := mixed(i + j + k)
				check(t, "three pieces", written(long[:i], long[i:i+j], long[i+j:]), long)
			}
		}
	}
}

func TestPiecesOfTheExample(t *testing.T) {
	b := []byte("abc")
	for _, pieces := range [][][]byte{{b}, {b[:1], b[1:]}, {b[:2], b[2:]}, {b[:1], b[1:2], b[2:]}, {nil, b[:1], nil, b[1:], nil}} {
		if got := written(pieces...).Sum(); hex.EncodeToString(got[:4]) != "ba7816bf" {
			t.Errorf("%q: %x", pieces, got)
		}
	}
}

// R1 and R2: a nil Hash is no error: it tells zeros, not the digest of nothing, whatever is written into it.
func TestNilHash(t *testing.T) {
	var none *sha.Hash
	for _, b := range [][]byte{nil, {}, []byte("abc"), mixed(64), mixed(200)} {
		none.Write(b)
		if got := none.Sum(); got != [sha.Size]byte{} {
			t.Errorf("Sum %x", got)
		}
		if got := none.Long(); got != 0 {
			t.Errorf("Long %d", got)
		}
	}
	if sha.Of(nil) != nothing || sha.New().Sum() != nothing {
		t.Error("of nothing another digest is told than that of no bytes")
	}
}

// R1: long ones end too, and so does how many bits they are, in more than two bytes.
func TestLongOnes(t *testing.T) {
	for _, b := range [][]byte{make([]byte, 1<<20), bytes.Repeat([]byte{0xff}, 1<<20+1), mixed(1<<21 + 57)} {
		if got, want := sha.Of(b), sha256.Sum256(b); got != want {
			t.Errorf("Of of %d bytes: %x, want %x", len(b), got, want)
		}
		check(t, "long pieces", written(b[:1<<19+1], b[1<<19+1:]), b)
	}
	h := sha.New()
	for range 1000 {
		h.Write(bytes.Repeat([]byte("a"), 1000))
	}
	if got := h.Sum(); hex.EncodeToString(got[:]) != "cdc76e5c9914fb9281a1c7e284d73e67f1809a48a497200e046d39ccc7112cd0" || h.Long() != 1000000 {
		t.Errorf("of a million: %x, Long %d", got, h.Long())
	}
}

// R3: nil and empty are one.
func TestNilAndEmpty(t *testing.T) {
	if sha.Of(nil) != nothing || sha.Of([]byte{}) != nothing {
		t.Errorf("Of: %x %x", sha.Of(nil), sha.Of([]byte{}))
	}
	for _, n := range edges {
		b := mixed(n)
		check(t, "nil behind", written(b, nil), b)
		check(t, "empty behind", written(b, []byte{}), b)
	}
}

// R4: what is handed in isn't changed, spare room included.
func TestChangesNothing(t *testing.T) {
	for _, n := range edges {
		whole := mixed(n + 200)
		was := bytes.Clone(whole)
		sha.Of(whole[:n])
		h := written(whole[:n], whole[:n])
		h.Sum()
		h.Write(whole[:1])
		h.Sum()
		if !bytes.Equal(whole, was) {
			t.Errorf("%d bytes: %x, were %x", n, whole, was)
		}
	}
}

// R4: what is handed in isn't kept: it may be changed behind Write, whether its block is full or not.
func TestChangedBehindWrite(t *testing.T) {
	for _, i := range edges {
		for _, j := range edges {
			b := mixed(i + j)
			was := bytes.Clone(b)
			h := written(b[:i], b[i:])
			clear(b)
			check(t, "changed", h, was)
			h.Write(was)
			check(t, "changed, and more written", h, slices.Concat(was, was))
		}
	}
}

// One piece of memory may serve for all that is written.
func TestOneMemoryForAll(t *testing.T) {
	long := mixed(500)
	for _, n := range []int{1, 7, 55, 56, 63, 64, 65, 120} {
		h, room := sha.New(), make([]byte, n)
		for piece := range slices.Chunk(long, n) {
			h.Write(room[:copy(room, piece)])
		}
		check(t, "one memory", h, long)
	}
}

// R4: each answer is new memory.
func TestAnswersAreNewMemory(t *testing.T) {
	h, other := sha.New(), sha.New()
	if h == other {
		t.Fatal("one Hash was handed out twice")
	}
	other.Write(mixed(70))
	check(t, "beside another", h, nil)
	x := h.Sum()
	clear(x[:])
	check(t, "behind an answer that was changed", h, nil)
	y := sha.Of(nil)
	clear(y[:])
	if sha.Of(nil) != nothing {
		t.Errorf("Of: %x", sha.Of(nil))
	}
	check(t, "made later", sha.New(), nil)
}

// R5: an answer hangs on what was written alone: not on other Hashes, nor on spare room, nor on what was asked.
func TestAnswersHangOnNothingElse(t *testing.T) {
	tight, wide := mixed(100), mixed(300)[:100]
	x, y := sha.New(), sha.New()
	for i := range tight {
		x.Write(tight[i : i+1])
		sha.Of(wide[i:])
		y.Write(wide[i : i+1])
		y.Sum()
		y.Long()
		if x.Sum() != y.Sum() {
			t.Fatalf("at %d: %x %x", i, x.Sum(), y.Sum())
		}
	}
	check(t, "tight", x, tight)
	check(t, "wide", y, tight)
	if sha.Of(tight) != sha.Of(wide) || sha.Of(tight) != x.Sum() {
		t.Errorf("%x %x %x", sha.Of(tight), sha.Of(wide), x.Sum())
	}
}

// FuzzWrite: cut anywhere, asked anywhere, it is the whole's digest.
func FuzzWrite(f *testing.F) {
	f.Add([]byte("abc"), 1, 2)
	f.Add([]byte{}, 0, 0)
	f.Add(mixed(120), 56, 8)
	f.Add(mixed(200), 64, 64)
	f.Fuzz(func(t *testing.T, b []byte, i, j int) {
		i = min(max(i, 0), len(b))
		j = i + min(max(j, 0), len(b)-i)
		check(t, "fuzzed, three pieces", written(b[:i], b[i:j], b[j:]), b)
		h := written(b[:j])
		check(t, "fuzzed, in between", h, b[:j])
		h.Write(b[j:])
		check(t, "fuzzed", h, b)
		if got, want := sha.Of(b), sha256.Sum256(b); got != want {
			t.Fatalf("Of(%x): %x, want %x", b, got, want)
		}
	})
}
