package image

import (
	"bytes"

	"longeron/crc"
	"longeron/num"
	"longeron/sha"
)

const (
	sumSize  = 4                  // bytes of the table's sum
	sumsSize = sha.Size + sumSize // bytes that stand behind an image's fields
)

// digest is one of nothing so far: it serves for one sum.
type digest struct{ hash *sha.Hash }

// sum answers the digest of b as it stands in an image's bytes.
func (d digest) sum(b []byte) []byte {
	d.hash.Write(b)
	s := d.hash.Sum()
	return s[:]
}

type table struct{ crc *crc.Table }

// sum answers the table's sum of b as it stands in an image's bytes.
func (t table) sum(b []byte) []byte {
	return num.Put(nil, int(t.crc.Sum(b)), sumSize)
}

// withSums answers b, and behind it its digest, and then the sum of both.
func withSums(b []byte) []byte {
	return inTurn(b, digest{sha.New()}.sum, table{crc.Make()}.sum)
}

// inTurn answers b, and behind it each of the sums, taken of all that is ahead of it. They go behind a copy, as b's spare room is its owner's.
func inTurn(b []byte, sums ...func(b []byte) []byte) []byte {
	out := bytes.Clone(b)
	for _, sum := range sums {
		out = append(out, sum(out)...)
	}
	return out
}
