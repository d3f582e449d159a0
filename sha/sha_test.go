package sha

import (
	"crypto/sha3"
	"encoding/binary"
	"encoding/hex"
	"math/rand"
	"slices"
	"strings"
	"testing"

	"cupel/api"
)

// text is n bytes of all kinds, the same ones each time.
func text(n int) string {
	b := make([]byte, n)
	for i := range b {
		b[i] = byte(i*7 + i/256*13 + 1)
	}
	return string(b)
}

// want is the library's own digest.
func want(s string) string {
	h := sha3.Sum256([]byte(s))
	return string(h[:])
}

// edges are lengths about the ends of blocks, and of numbers within them.
func edges() []int {
	out := []int{0, 1, 7, 8, 9, 31, 32, 33}
	for blocks := 1; blocks <= 5; blocks++ {
		for near := -9; near <= 9; near++ {
			out = append(out, blocks*136+near)
		}
	}
	return append(out, 4096, 10007)
}

// Promise 1.1: digests that others have told.
func TestSumOfKnownTexts(t *testing.T) {
	known := []struct{ s, digest string }{
		{"", "a7ffc6f8bf1ed76651c14756a061d662f580ff4de43b49fa82d80a4b80f8434a"},
		{"abc", "3a985da74fe225b2045c172d6bd390bd855f086e3e9d525b46bfe24511431532"},
		{"abcdbcdecdefdefgefghfghighijhijkijkljklmklmnlmnomnopnopq", "41c0dba2a9d6240849100376a8235e2c82e1b9998a999e21db32dd97496d3376"},
		{"abcdefghbcdefghicdefghijdefghijkefghijklfghijklmghijklmnhijklmnoijklmnopjklmnopqklmnopqrlmnopqrsmnopqrstnopqrstu", "916f6061fe879741ca6469b43971dfdb28b1a32dc36cb3254e812be27aad1d18"},
		{strings.Repeat("\xa3", 200), "79f38adec5c20307a98ef76e8324afbfd46cfd81b22e3973c65fa1bd9de31787"},
		{strings.Repeat("a", 1000000), "5c8875ae474a3634ba4fd55ec85bffd661f32aca75c6d699d0cdcb6c115891c1"},
	}
	for _, k := range known {
		if got := hex.EncodeToString([]byte(Sum(k.s))); got != k.digest {
			t.Errorf("Sum of %d bytes: %s, not %s", len(k.s), got, k.digest)
		}
	}
}

// Promise 1.1: all lengths over the first blocks, and those about the ends of later ones.
func TestSumAtAllLengths(t *testing.T) {
	lengths := edges()
	for n := range 300 {
		lengths = append(lengths, n)
	}
	for _, n := range lengths {
		s := text(n)
		if got := Sum(s); got != want(s) {
			t.Errorf("Sum of %d bytes: %x, not %x", n, got, want(s))
		}
		if got := len(Sum(s)); got != api.HashBytes {
			t.Errorf("Sum of %d bytes has %d bytes", n, got)
		}
	}
}

// Promise 1.1: texts that look like what stands behind the last byte of another one.
func TestSumTellsEndsApart(t *testing.T) {
	for _, n := range []int{0, 1, 134, 135, 136} {
		s := text(n)
		seen := map[string]string{Sum(s): "alone"}
		for _, end := range []string{"\x00", "\x06", "\x80", "\x86", "\x06\x00", "\x06\x80"} {
			got := Sum(s + end)
			if other, ok := seen[got]; ok {
				t.Errorf("%d bytes: %x and %x have one digest", n, end, other)
			}
			seen[got] = end
		}
	}
}

// Promise 1.1: the numbers that the Keccak team tells for one turn of nothing, and for two.
func TestTurnOfNothing(t *testing.T) {
	once := Lanes{
		0xf1258f7940e1dde7, 0x84d5ccf933c0478a, 0xd598261ea65aa9ee, 0xbd1547306f80494d, 0x8b284e056253d057,
		0xff97a42d7f8e6fd4, 0x90fee5a0a44647c4, 0x8c5bda0cd6192e76, 0xad30a6f71b19059c, 0x30935ab7d08ffc64,
		0xeb5aa93f2317d635, 0xa9a6e6260d712103, 0x81a57c16dbcf555f, 0x43b831cd0347c826, 0x01f22f1a11a5569f,
		0x05e5635a21d9ae61, 0x64befef28cc970f2, 0x613670957bc46611, 0xb87c5a554fd00ecb, 0x8c3ee88a1ccf32c8,
		0x940c7922ae3a2614, 0x1841f924a2c509e4, 0x16f53526e70465c2, 0x75f644e97f30a13b, 0xeaf1ff7b5ceca249,
	}
	twice := Lanes{
		0x2d5c954df96ecb3c, 0x6a332cd07057b56d, 0x093d8d1270d76b6c, 0x8a20d9b25569d094, 0x4f9c4f99e5e7f156,
		0xf957b9a2da65fb38, 0x85773dae1275af0d, 0xfaf4f247c3d810f7, 0x1f1b9ee6f79a8759, 0xe4fecc0fee98b425,
		0x68ce61b6b9ce68a1, 0xdeea66c4ba8f974f, 0x33c43d836eafb1f5, 0xe00654042719dbd9, 0x7cf8a9f009831265,
		0xfd5449a6bf174743, 0x97ddad33d8994b40, 0x48ead5fc5d0be774, 0xe3b8c8ee55b7b03c, 0x91a0226e649e42e9,
		0x900e3129e7badd7b, 0x202a9ec5faa3cce8, 0x5b3402464e1c3db6, 0x609f4e62a44c1059, 0x20d06cd26a8fbf5c,
	}
	if got := Turn(Lanes{}); got != once {
		t.Errorf("one turn: %x", got)
	}
	if got := Turn(once); got != twice {
		t.Errorf("two turns: %x", got)
	}
}

// Promise 1.1: turns of any numbers, against FIPS 202 bit by bit.
func TestTurnOfAnyNumbers(t *testing.T) {
	r := rand.New(rand.NewSource(1))
	var all Lanes
	for i := range all {
		all[i] = ^uint64(0)
	}
	starts := []Lanes{{}, all}
	for i := range all {
		var low, high Lanes
		low[i], high[i] = 1, 1<<63
		starts = append(starts, low, high)
	}
	for range 20 {
		var a Lanes
		for i := range a {
			a[i] = r.Uint64()
		}
		starts = append(starts, a)
	}
	for _, a := range starts {
		before := a
		if got := Turn(a); got != slowTurn(a) {
			t.Errorf("Turn(%x): %x, not %x", a, got, slowTurn(a))
		}
		if a != before {
			t.Errorf("Turn changed its argument %x", before)
		}
	}
}

// bitState is a sponge as FIPS 202 writes it: bits by x, y, z.
type bitState [5][5][64]bool

// slowTurn goes by the words of FIPS 202, section 3.2, with no table of its own.
func slowTurn(a Lanes) Lanes {
	var s bitState
	for i, lane := range a {
		for z := range 64 {
			s[i%5][i/5][z] = lane>>z&1 == 1
		}
	}
	for round := range 24 {
		s = slowIota(slowChi(slowPi(slowRho(slowTheta(s)))), round)
	}
	var out Lanes
	for i := range out {
		for z := range 64 {
			if s[i%5][i/5][z] {
				out[i] |= 1 << z
			}
		}
	}
	return out
}

func slowTheta(a bitState) bitState {
	var c [5][64]bool
	for x := range 5 {
		for y := range 5 {
			for z := range 64 {
				c[x][z] = c[x][z] != a[x][y][z]
			}
		}
	}
	for x := range 5 {
		for y := range 5 {
			for z := range 64 {
				d := c[(x+4)%5][z] != c[(x+1)%5][(z+63)%64]
				a[x][y][z] = a[x][y][z] != d
			}
		}
	}
	return a
}

func slowRho(a bitState) bitState {
	b := a
	x, y := 1, 0
	for t := range 24 {
		for z := range 64 {
			b[x][y][z] = a[x][y][((z-(t+1)*(t+2)/2)%64+64)%64]
		}
		x, y = y, (2*x+3*y)%5
	}
	return b
}

func slowPi(a bitState) bitState {
	var b bitState
	for x := range 5 {
		for y := range 5 {
			b[x][y] = a[(x+3*y)%5][x]
		}
	}
	return b
}

func slowChi(a bitState) bitState {
	var b bitState
	for x := range 5 {
		for y := range 5 {
			for z := range 64 {
				b[x][y][z] = a[x][y][z] != (!a[(x+1)%5][y][z] && a[(x+2)%5][y][z])
			}
		}
	}
	return b
}

func slowIota(a bitState, round int) bitState {
	for j := range 7 {
		z := 1<<j - 1
		a[0][0][z] = a[0][0][z] != slowBit(j+7*round)
	}
	return a
}

// slowBit is rc(t): a register of eight bits that shifts.
func slowBit(t int) bool {
	r := uint(1)
	for range t % 255 {
		r <<= 1
		if r&0x100 != 0 {
			r ^= 0x171
		}
	}
	return r&1 == 1
}

// tagged is the text that a digest for a purpose is of, by the words of the chapter.
func tagged(purpose byte, parts ...string) string {
	var b []byte
	for _, p := range parts {
		b = append(b, p...)
		b = binary.LittleEndian.AppendUint64(b, uint64(len(p)))
	}
	return string(append(b, purpose))
}

// Promise 1.1: no part, one, many, empty ones, parts longer than a block, all purposes.
func TestTaggedIsOfPartsLengthsAndPurpose(t *testing.T) {
	lists := [][]string{
		nil, {}, {""}, {"", ""}, {"a"}, {"", "a"}, {"a", ""}, {"ab", "c"}, {"a", "bc"},
		{text(126)}, {text(127)}, {text(128)}, {text(136)}, {text(255)}, {text(256)}, {text(257)}, {text(65536)},
		{text(136), "", text(135), text(137), text(1)},
		slices.Repeat([]string{"x"}, 100),
	}
	for _, parts := range lists {
		for p := range 256 {
			if len(parts) > 2 && p%51 != 0 {
				continue
			}
			if got := Tagged(byte(p), parts...); got != want(tagged(byte(p), parts...)) {
				t.Errorf("purpose %d, %d parts: %x", p, len(parts), got)
			}
		}
	}
	if Tagged('x') != want("x") {
		t.Error("no part: not the digest of the purpose alone")
	}
}

// Promise 1.3: lists that one may take for one another are told apart, and so are purposes.
func TestTaggedTellsListsApart(t *testing.T) {
	lists := [][]string{
		nil, {""}, {"", ""}, {"", "", ""}, {"a"}, {"", "a"}, {"a", ""}, {"ab"}, {"ab", "c"}, {"a", "bc"}, {"abc"}, {"a", "b", "c"}, {"c", "b", "a"},
		{"x"}, {"x", "x"}, {"xx"}, {"\x00"}, {"\x00\x00"},
		{size("")}, {size("") + size("")}, {size(""), ""}, {"", size("")},
		{"a" + size("a")}, {"a" + size("a"), ""}, {"a" + size("a") + "b"}, {"a", "b"}, {"a" + size("a") + "b" + size("b")},
		{"a" + size("a") + "x"}, {text(136)}, {text(135), text(136)[135:]}, {text(137)},
	}
	seen := map[string]int{}
	for i, parts := range lists {
		for _, p := range []byte{0, 1, 8, 'a', 'x', 255} {
			got := Tagged(p, parts...)
			if at, ok := seen[got]; ok {
				t.Errorf("purpose %d of %q has the digest of %q", p, parts, lists[at])
			}
			seen[got] = i
		}
	}
}

// Rules R2 and R3: parts are not changed, and no part is no part, nil or empty.
func TestTaggedLeavesPartsAlone(t *testing.T) {
	parts := []string{"b", "", "a"}
	first := Tagged(3, parts...)
	if !slices.Equal(parts, []string{"b", "", "a"}) {
		t.Errorf("parts: %q", parts)
	}
	parts[0] = "c"
	if first != want(tagged(3, "b", "", "a")) {
		t.Error("the digest changed with its parts")
	}
	if Tagged(3) != Tagged(3, nil...) || Tagged(3) != Tagged(3, []string{}...) {
		t.Error("nil and empty are unlike")
	}
}

// Promises 1.2 and 1.3: each text in two pieces, at each place.
func TestWriteInTwoPieces(t *testing.T) {
	for _, n := range []int{0, 1, 135, 136, 137, 271, 272, 273, 409} {
		s := text(n)
		for cut := range n + 1 {
			d := New()
			d.Write(s[:cut])
			d.Write(s[cut:])
			if d.Sum() != want(s) {
				t.Errorf("%d bytes in pieces of %d and %d", n, cut, n-cut)
			}
		}
	}
}

// Promises 1.2 and 1.3: pieces of any lengths, with a Sum behind some of them.
func TestWriteInAnyPieces(t *testing.T) {
	r := rand.New(rand.NewSource(2))
	lengths := []int{0, 0, 1, 2, 7, 8, 9, 135, 136, 137, 272, 500}
	for range 300 {
		d := New()
		var all string
		for range r.Intn(12) {
			piece := text(600)[50:][:lengths[r.Intn(len(lengths))]]
			d.Write(piece)
			all += piece
			if r.Intn(2) == 0 && d.Sum() != want(all) {
				t.Fatalf("a Sum in the middle, behind %d bytes", len(all))
			}
		}
		if d.Sum() != want(all) {
			t.Fatalf("%d bytes in pieces", len(all))
		}
	}
}

// Promises 1.2 and 1.3: byte by byte over several blocks, with a Sum behind each.
func TestWriteByteByByte(t *testing.T) {
	d := New()
	s := text(600)
	for i := range len(s) {
		if d.Sum() != want(s[:i]) {
			t.Fatalf("behind %d bytes", i)
		}
		d.Write("")
		d.Write(s[i : i+1])
	}
	if d.Sum() != want(s) {
		t.Error("behind all bytes")
	}
}

// Promise 1.2: a Sum tells the same again, and changes nothing.
func TestSumAgain(t *testing.T) {
	for _, n := range edges() {
		s := text(n)
		d := New()
		d.Write(s)
		first := d.Sum()
		if d.Sum() != first || first != want(s) {
			t.Errorf("%d bytes: Sum twice", n)
		}
		d.Write(s)
		if d.Sum() != want(s+s) || first != want(s) {
			t.Errorf("%d bytes: more behind a Sum", n)
		}
	}
}

// Promise 1.2: a new sponge has soaked up nothing, whatever others have.
func TestSpongesApart(t *testing.T) {
	a := New()
	a.Write(text(200))
	b := New()
	if b.Sum() != want("") {
		t.Error("a new sponge is not empty")
	}
	b.Write("b")
	if a.Sum() != want(text(200)) || b.Sum() != want("b") {
		t.Error("two sponges share what they hold")
	}
	var zero Digest
	zero.Write("b")
	if zero.Sum() != want("b") {
		t.Error("a sponge that New did not make")
	}
}

// Promise 1.2: a sponge that is nil.
func TestNilSponge(t *testing.T) {
	var d *Digest
	if d.Sum() != "" {
		t.Error("Sum of nil")
	}
	d.Write("")
	d.Write(text(300))
	if d.Sum() != "" {
		t.Error("Sum of nil behind Write")
	}
}

// Promise 1.1: each bit of each byte counts, and so does the length.
func TestSame(t *testing.T) {
	for _, n := range []int{0, 1, 2, 31, 32, 33, 136, 300} {
		s := text(n)
		if !Same(s, strings.Clone(s)) {
			t.Errorf("%d bytes are not the same as themselves", n)
		}
		for i := range n {
			for bit := range 8 {
				b := []byte(s)
				b[i] ^= 1 << bit
				if Same(s, string(b)) || Same(string(b), s) {
					t.Errorf("%d bytes: bit %d of byte %d is not seen", n, bit, i)
				}
			}
			if Same(s, s[:i]) || Same(s[:i], s) {
				t.Errorf("%d bytes are the same as their first %d", n, i)
			}
		}
		if Same(s, s+"\x00") || Same(s+"\x00", s) {
			t.Errorf("%d bytes are the same with a nought behind them", n)
		}
	}
	if Same("ab", "ba") || Same("\x01\x01", "\x02\x02") {
		t.Error("differences that make each other up")
	}
}

// Promise 1.1: like texts are no collision, nor are unlike ones of two digests.
func TestCollide(t *testing.T) {
	texts := []string{"", "\x00", "a", "b", "ab", "a\x06", text(135), text(136), text(137), Sum("a")}
	for _, a := range texts {
		for _, b := range texts {
			if Collide(api.Witness{A: a, B: b}) {
				t.Errorf("%q and %q", a, b)
			}
		}
	}
}

func BenchmarkTurn(b *testing.B) {
	var a Lanes
	for b.Loop() {
		a = Turn(a)
	}
}
