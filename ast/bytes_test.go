package ast

import (
	"crypto/sha3"
	"encoding/binary"
	"math"
	"math/rand"
	"strings"
	"testing"

	"cupel/api"
	"cupel/wire"
)

const deepestLevel = 83 // of the tree of a text in its one form: 40 blocks, 39 loops, a program, a function, a statement, a name

// raw is a tree's bytes by the library.
func raw(n api.Node) string {
	b := []byte{byte(n.Kind), byte(n.T)}
	b = binary.LittleEndian.AppendUint32(b, uint32(len(n.S)))
	b = append(b, n.S...)
	b = binary.LittleEndian.AppendUint64(b, uint64(n.N))
	b = append(b, byte(len(n.Kids)))
	for _, kid := range n.Kids {
		b = append(b, raw(kid)...)
	}
	return string(b)
}

// head is the bytes of a node without a text, that says how many kids it has.
func head(kids int) string {
	return "\x06\x00" + strings.Repeat("\x00", 12) + string([]byte{byte(kids)})
}

func decodes(t *testing.T, what, s string, want api.Node) {
	t.Helper()
	got, e := Decode(s)
	same(t, what, e, api.OK)
	sameTree(t, what, got, want)
}

func refused(t *testing.T, what, s string, want api.Errno) {
	t.Helper()
	got, e := Decode(s)
	same(t, what, e, want)
	sameTree(t, what, got, api.Node{})
}

// Promise 10.3: a tree's bytes, by hand and by the library.
func TestEncode(t *testing.T) {
	same(t, "a lone node", Encode(api.Node{Kind: 20, T: 1, N: 258}), "\x14\x01\x00\x00\x00\x00\x02\x01\x00\x00\x00\x00\x00\x00\x00")
	n := api.Node{Kind: 25, T: 2, S: "-", Kids: []api.Node{{Kind: 23, S: "ab", N: -1}}}
	same(t, "a node with a kid", Encode(n), "\x19\x02\x01\x00\x00\x00-\x00\x00\x00\x00\x00\x00\x00\x00\x01"+"\x17\x00\x02\x00\x00\x00ab\xff\xff\xff\xff\xff\xff\xff\xff\x00")
	same(t, "nothing", Encode(api.Node{}), strings.Repeat("\x00", 15))
	for _, n := range someTrees() {
		same(t, "Encode", Encode(n), raw(n))
	}
}

// Promise 10.3: there and back.
func TestEncodeAndDecode(t *testing.T) {
	for _, n := range someTrees() {
		was := copied(n)
		decodes(t, "there and back", Encode(n), was)
		sameTree(t, "the tree itself", n, was)
	}
	for _, number := range []int64{0, 1, -1, math.MaxInt64, math.MinInt64, 0x0102030405060708} {
		decodes(t, "a number", Encode(whole(number)), whole(number))
	}
	for b := range 256 {
		n := api.Node{Kind: b, T: 255 - b, S: string([]byte{byte(b)})}
		decodes(t, "any byte", Encode(n), n)
	}
}

// Promise 10.3: bytes that end at any place but the last.
func TestDecodeCut(t *testing.T) {
	for _, n := range []api.Node{{}, whole(5), named(api.NodeVar, strings.Repeat("x", 64)), sample(), chain(api.NodeUnary, 60), wide(255)} {
		s := Encode(n)
		for end := range len(s) {
			refused(t, "cut", s[:end], api.ErrCut)
		}
	}
	refused(t, "nothing", "", api.ErrCut)
}

// Promise 10.3: bytes that are left behind the tree.
func TestDecodeMore(t *testing.T) {
	for _, n := range []api.Node{{}, whole(5), sample()} {
		for _, more := range []string{"\x00", "a", Encode(n), strings.Repeat("\xff", 300)} {
			refused(t, "more", Encode(n)+more, api.ErrMore)
		}
	}
	refused(t, "behind MaxNodes nodes", Encode(broad(api.MaxNodes))+Encode(whole(1)), api.ErrMore)
}

// Promise 10.3: texts of 64 bytes and of 65; that they are too long is told ahead of that they end.
func TestDecodeLongTexts(t *testing.T) {
	for _, size := range []int{0, 1, 63, 64} {
		n := node(api.NodeBlock, name(strings.Repeat("x", size)))
		decodes(t, "a text", Encode(n), n)
	}
	for _, size := range []int{65, 66, 255, 256, 70000} {
		s := Encode(named(api.NodeVar, strings.Repeat("x", size), whole(1)))
		for _, end := range []int{6, 7, 6 + size, len(s)} {
			refused(t, "a long text", s[:end], api.ErrMany)
		}
		refused(t, "its count cut off", s[:5], api.ErrCut)
		refused(t, "as a kid's", Encode(node(api.NodeBlock, whole(1), name(strings.Repeat("x", size)))), api.ErrMany)
	}
	refused(t, "the greatest count", "\x06\x00\xff\xff\xff\xff", api.ErrMany)
}

// Promise 10.3: MaxNodes nodes, and one more.
func TestDecodeManyNodes(t *testing.T) {
	for _, count := range []int{1, 2, api.MaxNodes - 1, api.MaxNodes} {
		n := broad(count)
		same(t, "how many", len(flat(n)), count)
		decodes(t, "as many as may be", Encode(n), n)
	}
	s := Encode(broad(api.MaxNodes + 1))
	refused(t, "one more", s, api.ErrMany)
	refused(t, "and bytes behind it", s+"x", api.ErrMany)
	refused(t, "two more", Encode(broad(api.MaxNodes+2)), api.ErrMany)
	refused(t, "many more", Encode(broad(20000)), api.ErrMany)
	last := len(Encode(whole(1)))
	for end := len(s) - 3*last; end < len(s)-last; end++ {
		refused(t, "cut ahead of the one more", s[:end], api.ErrCut)
	}
	for end := len(s) - last; end < len(s); end++ {
		refused(t, "cut within the one more", s[:end], api.ErrMany)
	}
}

// Promise 10.3: as deep as may be, and one deeper, by any kind of nodes.
func TestDecodeDeepTrees(t *testing.T) {
	for _, kind := range append([]int{0, 99}, allKinds...) {
		for _, levels := range []int{1, 2, 40, 41, deepestLevel - 1, deepestLevel} {
			decodes(t, "deep", Encode(chain(kind, levels)), chain(kind, levels))
		}
		for _, levels := range []int{deepestLevel + 1, deepestLevel + 2, 200, 1000, api.MaxNodes, 1 << 16} {
			refused(t, "too deep", Encode(chain(kind, levels)), api.ErrMany)
		}
	}
	s := strings.Repeat(head(1), deepestLevel)
	refused(t, "cut ahead of the one deeper", s[:len(s)-1], api.ErrCut)
	refused(t, "cut where it would begin", s, api.ErrMany)
	refused(t, "no end of it", strings.Repeat(head(255), 100000), api.ErrMany)
}

// Promise 10.3: how deep a tree is has nothing to do with what stands beside its deepest node.
func TestDecodeDeepBesideOthers(t *testing.T) {
	deep := chain(api.NodeBlock, deepestLevel-1)
	n := node(api.NodeProgram, deep, whole(1), deep, deep, wide(100))
	decodes(t, "three times as deep as may be", Encode(n), n)
	n.Kids = append(n.Kids, chain(api.NodeBlock, deepestLevel))
	refused(t, "the last one is deeper", Encode(n), api.ErrMany)
}

// Promise 10.3: a text in its one form with as many blocks within one another as there may be is not too deep; nor is one with as many brackets.
func TestDecodeTheDeepestPrograms(t *testing.T) {
	block := node(api.NodeBlock, named(api.NodeAssign, "a", whole(1)))
	for range api.MaxDepth - 1 {
		block = node(api.NodeBlock, node(api.NodeFor, yes(), block))
	}
	p := node(api.NodeProgram, typed(api.NodeFunc, 1, "f", block))
	decodes(t, "blocks", Encode(p), p)
	sum := name("a")
	for range api.MaxDepth - 1 {
		sum = named(api.NodeBin, "-", sum, whole(1))
	}
	p = node(api.NodeProgram, typed(api.NodeFunc, 1, "f", node(api.NodeBlock, node(api.NodeReturn, sum))))
	decodes(t, "brackets", Encode(p), p)
}

// Promise 10.3: Put and Take among other things.
func TestPutAndTake(t *testing.T) {
	w := wire.NewWriter()
	w.Text("ahead")
	Put(w, sample())
	Put(w, whole(1))
	Put(w, broad(api.MaxNodes))
	w.Bool(true)
	same(t, "the bytes", w.All(), "\x05\x00\x00\x00ahead"+raw(sample())+raw(whole(1))+raw(broad(api.MaxNodes))+"\x01")
	r := wire.NewReader(w.All())
	r.Text(10)
	sameTree(t, "the first", Take(r), sample())
	sameTree(t, "the second", Take(r), whole(1))
	sameTree(t, "the third, with as many nodes as may be", Take(r), broad(api.MaxNodes))
	same(t, "what is behind", r.Bool(), true)
	same(t, "End", r.End(), api.OK)
}

// Promise 10.3: a reader's error ends it, and there is no tree then.
func TestTakeFails(t *testing.T) {
	s := Encode(sample())
	for _, end := range []int{0, 1, 20, len(s) - 1} {
		r := wire.NewReader(s[:end])
		sameTree(t, "cut", Take(r), api.Node{})
		same(t, "cut", r.Err(), api.ErrCut)
	}
	r := wire.NewReader(s)
	r.Fail(api.ErrForm)
	sameTree(t, "failed already", Take(r), api.Node{})
	same(t, "failed already", r.Err(), api.ErrForm)
	r = wire.NewReader(Encode(chain(1, 200)) + s)
	sameTree(t, "too deep", Take(r), api.Node{})
	sameTree(t, "behind that", Take(r), api.Node{})
	same(t, "too deep", r.Err(), api.ErrMany)
	same(t, "how many were taken", r.At(), deepestLevel*len(head(1)))
}

// Rule R1: a nil reader and a nil writer.
func TestPutAndTakeOfNil(t *testing.T) {
	Put(nil, sample())
	sameTree(t, "a nil reader", Take(nil), api.Node{})
}

// Rule R1: nodes for which a tree's bytes have no room: the lowest bytes of what they have.
func TestEncodeOfOtherNodes(t *testing.T) {
	for _, n := range []api.Node{{Kind: -1, T: -1}, {Kind: 257, T: 300}, {Kind: math.MinInt, T: math.MaxInt}, wide(256), wide(300), named(1, strings.Repeat("x", 70000))} {
		same(t, "Encode", Encode(n), raw(n))
		same(t, "Hash", Hash(n), Hash(copied(n)))
		if got, e := Decode(Encode(n)); e != api.OK && !equal(got, api.Node{}) {
			t.Errorf("%d: a tree beside an error", e)
		}
	}
	want := strings.Repeat(head(1), 1<<16-1) + head(0)
	if Encode(chain(api.NodeBlock, 1<<16)) != want {
		t.Error("a deep tree has other bytes")
	}
}

// tagged is the digest of one part for a purpose, by the library.
func tagged(purpose byte, s string) string {
	b := binary.LittleEndian.AppendUint64([]byte(s), uint64(len(s)))
	sum := sha3.Sum256(append(b, purpose))
	return string(sum[:])
}

// Promise 10.3: the digest for the purpose N of the bytes of the bare tree.
func TestHash(t *testing.T) {
	for _, n := range someTrees() {
		was := copied(n)
		same(t, "Hash", Hash(n), tagged('N', raw(Bare(n))))
		sameTree(t, "the tree itself", n, was)
	}
	bare := api.Node{Kind: 23, S: "a"}
	same(t, "by hand", Hash(typed(api.NodeVar, 2, "a")), tagged('N', raw(bare)))
}

// Promise 10.3: the same digest with and without types of expressions, another one where anything else differs.
func TestHashOfOtherTrees(t *testing.T) {
	n := sample()
	want := Hash(n)
	same(t, "without types", Hash(Bare(n)), want)
	seen := map[string]api.Node{want: Bare(n)}
	for _, other := range others(n) {
		got, bare := Hash(other), Bare(other)
		if was, is := seen[got]; is && !equal(was, bare) {
			t.Errorf("one digest of %s and %s", Print(was), Print(bare))
		}
		seen[got] = bare
		same(t, "the same as before", got == want, equal(bare, Bare(n)))
	}
}

// Promise 10.3, rule R1: any bytes are a tree, or refused; and a tree's bytes are the only ones of it.
func TestDecodeAnyBytes(t *testing.T) {
	rnd := rand.New(rand.NewSource(5))
	for range 20000 {
		s := []byte(Encode(anyTree(rnd, 4)))
		for range rnd.Intn(4) {
			s[rnd.Intn(len(s))] = byte(rnd.Intn(256) >> rnd.Intn(8))
		}
		checkDecode(t, string(s))
	}
}

func checkDecode(t *testing.T, s string) {
	t.Helper()
	n, e := Decode(s)
	switch e {
	case api.OK:
		same(t, "its bytes", Encode(n), s)
		checkPrint(t, n)
	case api.ErrCut, api.ErrMany, api.ErrMore:
		sameTree(t, "refused", n, api.Node{})
	default:
		t.Errorf("%q: error %d", s, e)
	}
}

func FuzzDecode(f *testing.F) {
	f.Add("")
	f.Add(raw(sample()))
	f.Add(strings.Repeat(head(1), 90))
	f.Fuzz(checkDecode)
}
