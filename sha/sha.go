// Package sha is layer 1: see shared/doc/01-sha.md.
package sha

import (
	"math/bits"

	"cupel/api"
)

const (
	rate   = 136 // bytes that are soaked up between two turns
	rounds = 24
	side   = 5 // numbers of a row, and of a column

	endBits = 0x06 // what SHA3 lays behind the last byte,
	lastBit = 0x80 // and at the end of the block
)

// Lanes is what a sponge holds: five rows of five numbers.
type Lanes = [25]uint64

// marks keeps the rounds unlike one another (FIPS 202, iota).
var marks = [24]uint64{
	0x0000000000000001, 0x0000000000008082, 0x800000000000808a, 0x8000000080008000,
	0x000000000000808b, 0x0000000080000001, 0x8000000080008081, 0x8000000000008009,
	0x000000000000008a, 0x0000000000000088, 0x0000000080008009, 0x000000008000000a,
	0x000000008000808b, 0x800000000000008b, 0x8000000000008089, 0x8000000000008003,
	0x8000000000008002, 0x8000000000000080, 0x000000000000800a, 0x800000008000000a,
	0x8000000080008081, 0x8000000000008080, 0x0000000080000001, 0x8000000080008008,
}

// spins says by how many bits each number goes round (FIPS 202, rho).
var spins = [25]int{
	0, 1, 62, 28, 27,
	36, 44, 6, 55, 20,
	3, 10, 43, 25, 39,
	41, 45, 15, 21, 8,
	18, 2, 61, 56, 14,
}

// places says where each number goes: that at x, y to y, 2x + 3y (FIPS 202, pi).
var places = [25]int{
	0, 10, 20, 5, 15,
	16, 1, 11, 21, 6,
	7, 17, 2, 12, 22,
	23, 8, 18, 3, 13,
	14, 24, 9, 19, 4,
}

// Turn is a sponge's numbers behind 24 rounds.
func Turn(a Lanes) Lanes {
	for r := range rounds {
		mixColumns(&a)
		moveLanes(&a)
		bendRows(&a)
		a[0] ^= marks[r]
	}
	return a
}

// mixColumns lays the columns beside each one over it (theta).
func mixColumns(a *Lanes) {
	var sums [side]uint64
	for x := range side {
		sums[x] = a[x] ^ a[x+5] ^ a[x+10] ^ a[x+15] ^ a[x+20]
	}
	for x := range side {
		mix := sums[(x+4)%side] ^ bits.RotateLeft64(sums[(x+1)%side], 1)
		a[x] ^= mix
		a[x+5] ^= mix
		a[x+10] ^= mix
		a[x+15] ^= mix
		a[x+20] ^= mix
	}
}

// moveLanes spins each number and puts it to its next place (rho and pi).
func moveLanes(a *Lanes) {
	old := *a
	for i := range len(old) {
		a[places[i]] = bits.RotateLeft64(old[i], spins[i])
	}
}

// bendRows is the one step that is not linear (chi).
func bendRows(a *Lanes) {
	for y := range side {
		row := side * y
		a0, a1, a2, a3, a4 := a[row], a[row+1], a[row+2], a[row+3], a[row+4]
		a[row] ^= ^a1 & a2
		a[row+1] ^= ^a2 & a3
		a[row+2] ^= ^a3 & a4
		a[row+3] ^= ^a4 & a0
		a[row+4] ^= ^a0 & a1
	}
}

// Digest is a sponge that soaks up bytes.
type Digest struct {
	lanes Lanes
	at    int // bytes since the last turn, fewer than rate
}

// New is a sponge that has soaked up nothing.
func New() *Digest { return &Digest{} }

// Write soaks up bytes.
func (d *Digest) Write(s string) {
	if d == nil {
		return
	}
	for i := range len(s) {
		d.lay(s[i], d.at)
		d.at++
		if d.at == rate {
			d.lanes = Turn(d.lanes)
			d.at = 0
		}
	}
}

// lay puts a byte over the one at a place of the block; a number's lowest byte comes first.
func (d *Digest) lay(b byte, at int) {
	d.lanes[at/8] ^= uint64(b) << (8 * (at % 8))
}

// Sum is the digest of all bytes so far.
func (d *Digest) Sum() string {
	if d == nil {
		return ""
	}
	end := *d // more may come behind this Sum: the sponge itself is not closed
	end.lay(endBits, end.at)
	end.lay(lastBit, rate-1)
	out := Turn(end.lanes)
	var b [api.HashBytes]byte
	for i := range api.HashBytes {
		b[i] = byte(out[i/8] >> (8 * (i % 8)))
	}
	return string(b[:])
}

// Sum is the digest of bytes: SHA3-256.
func Sum(s string) string {
	d := New()
	d.Write(s)
	return d.Sum()
}

// Tagged is the digest of parts for a purpose: each with its size behind it, and the purpose behind all.
func Tagged(purpose byte, parts ...string) string {
	d := New()
	for _, part := range parts {
		d.Write(part)
		d.Write(size(part))
	}
	d.Write(string([]byte{purpose}))
	return d.Sum()
}

// size is a text's length in eight bytes, the lowest first.
func size(s string) string {
	n := uint64(len(s))
	var b [8]byte
	for i := range 8 {
		b[i] = byte(n >> (8 * i))
	}
	return string(b[:])
}

// Same tells whether two texts are the same, by all their bytes.
func Same(a, b string) bool {
	if len(a) != len(b) {
		return false
	}
	var unlike byte // no early end: the time does not tell where they differ
	for i := range len(a) {
		unlike |= a[i] ^ b[i]
	}
	return unlike == 0
}

// Collide tells whether two texts are unlike, and have one digest.
func Collide(w api.Witness) bool {
	return !Same(w.A, w.B) && Same(Sum(w.A), Sum(w.B))
}
