package sha

import "math/bits"

const (
	own    = 16 // words that stand in a block
	rounds = 64 // rounds of a block, each with a word of it, or with one that comes of these
)

// added is what each round adds of its own: of the cube roots of the first 64 primes the 32 bits behind the point.
var added = [rounds]uint32{
	0x428a2f98, 0x71374491, 0xb5c0fbcf, 0xe9b5dba5, 0x3956c25b, 0x59f111f1, 0x923f82a4, 0xab1c5ed5,
	0xd807aa98, 0x12835b01, 0x243185be, 0x550c7dc3, 0x72be5d74, 0x80deb1fe, 0x9bdc06a7, 0xc19bf174,
	0xe49b69c1, 0xefbe4786, 0x0fc19dc6, 0x240ca1cc, 0x2de92c6f, 0x4a7484aa, 0x5cb0a9dc, 0x76f988da,
	0x983e5152, 0xa831c66d, 0xb00327c8, 0xbf597fc7, 0xc6e00bf3, 0xd5a79147, 0x06ca6351, 0x14292967,
	0x27b70a85, 0x2e1b2138, 0x4d2c6dfc, 0x53380d13, 0x650a7354, 0x766a0abb, 0x81c2c92e, 0x92722c85,
	0xa2bfe8a1, 0xa81a664b, 0xc24b8b70, 0xc76c51a3, 0xd192e819, 0xd6990624, 0xf40e3585, 0x106aa070,
	0x19a4c116, 0x1e376c08, 0x2748774c, 0x34b0bcb5, 0x391c0cb3, 0x4ed8aa4a, 0x5b9cca4f, 0x682e6ff3,
	0x748f82ee, 0x78a5636f, 0x84c87814, 0x8cc70208, 0x90befffa, 0xa4506ceb, 0xbef9a3f7, 0xc67178f2,
}

// block is what is mixed into the words at once.
type block [blockSize]byte

// spread answers a word for each round: the block's own ones, and behind them those that come of the ones ahead.
func (b block) spread() [rounds]uint32 {
	var s [rounds]uint32
	for i := range own {
		s[i] = uint32(b[4*i])<<24 | uint32(b[4*i+1])<<16 | uint32(b[4*i+2])<<8 | uint32(b[4*i+3])
	}
	for i := own; i < rounds; i++ {
		x, y := s[i-15], s[i-2]
		s[i] = s[i-16] + s[i-7] + (turned(x, 7) ^ turned(x, 18) ^ x>>3) + (turned(y, 17) ^ turned(y, 19) ^ y>>10)
	}
	return s
}

// words are the eight that go from round to round, and that are the digest in the end. Their sums wrap round.
type words struct{ a, b, c, d, e, f, g, h uint32 }

// first are the words ahead of all blocks: of the square roots of the first eight primes the 32 bits behind the point.
func first() words {
	return words{0x6a09e667, 0xbb67ae85, 0x3c6ef372, 0xa54ff53a, 0x510e527f, 0x9b05688c, 0x1f83d9ab, 0x5be0cd19}
}

// behind answers the words behind one block more. Those ahead of it are added in the end, as the rounds alone could be gone back.
func (w words) behind(b block) words {
	v := w
	for i, n := range b.spread() {
		v = v.round(added[i]+n, words.low, words.high)
	}
	return w.plus(v)
}

// round answers the words behind one round more: all move down by a place, and n comes in half way and at the top, with what the two methods tell of the words.
func (w words) round(n uint32, low, high func(words) uint32) words {
	n += low(w)
	return words{n + high(w), w.a, w.b, w.c, w.d + n, w.e, w.f, w.g}
}

// low comes of the lower four words.
func (w words) low() uint32 {
	return w.h + (turned(w.e, 6) ^ turned(w.e, 11) ^ turned(w.e, 25)) + w.chosen()
}

// high comes of the upper ones.
func (w words) high() uint32 {
	return (turned(w.a, 2) ^ turned(w.a, 13) ^ turned(w.a, 22)) + w.most()
}

// chosen has the bits of f where e has ones, and those of g where it has zeros.
func (w words) chosen() uint32 { return w.e&w.f | ^w.e&w.g }

// most has the bits that at least two of a, b and c have.
func (w words) most() uint32 { return w.a&w.b | w.a&w.c | w.b&w.c }

func (w words) plus(v words) words {
	return words{w.a + v.a, w.b + v.b, w.c + v.c, w.d + v.d, w.e + v.e, w.f + v.f, w.g + v.g, w.h + v.h}
}

// bytes tells the words one behind the other, each with its highest byte first.
func (w words) bytes() [Size]byte {
	var out [Size]byte
	for i, n := range [...]uint32{w.a, w.b, w.c, w.d, w.e, w.f, w.g, w.h} {
		out[4*i], out[4*i+1], out[4*i+2], out[4*i+3] = byte(n>>24), byte(n>>16), byte(n>>8), byte(n)
	}
	return out
}

// turned is x with its bits moved down, those that go out coming in at the top.
func turned(x uint32, by int) uint32 { return bits.RotateLeft32(x, -by) }
