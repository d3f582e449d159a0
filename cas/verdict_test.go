package cas

import (
	"fmt"
	"maps"
	"math"
	"slices"
	"strings"
	"testing"

	"cupel/api"
)

// keys is n unlike keys.
func keys(n int) []string {
	var l []string
	for i := range n {
		l = append(l, fmt.Sprintf("key %03d", i))
	}
	return l
}

// numbers is n verdicts, from 0 on.
func numbers(n int) []int {
	var l []int
	for i := range n {
		l = append(l, i%256)
	}
	return l
}

// Promise 8.3: verdicts of all numbers, by keys of all lengths that may be; behind an opening, too.
func TestKeep(t *testing.T) {
	x := fresh(t)
	m := model{}
	for _, k := range []struct {
		keys []string
		l    []int
	}{
		{[]string{"a"}, []int{0}},
		{[]string{"b", "c"}, []int{1, 255}},
		{[]string{""}, []int{3}},
		{[]string{strings.Repeat("k", 32)}, []int{4}},
		{[]string{"\x00", "\xff", "a\x00", strings.Repeat("\xff", 32)}, []int{9, 10, 11, 12}},
		{[]string{"a", "new"}, []int{5, 6}},
		{[]string{"a"}, []int{5}},
		{keys(64), numbers(64)},
		{[]string{Digest("a")}, []int{7}},
		{nil, nil},
		{[]string{}, nil},
		{nil, []int{}},
	} {
		ok(t, "Keep", x.Keep(k.keys, k.l))
		m = m.found(k.keys, k.l)
		sure(t, fmt.Sprintf("Keep of %.80q", k.keys), x, m)
	}
	sure(t, "opened again", opened(t, x.disk), m)
	bytes, e := x.raw.Get("vc")
	same(t, "behind v and a key", bytes, "\xff")
	same(t, "its error", e, api.OK)
	bytes, e = x.raw.Get("v")
	same(t, "behind v and an empty key", bytes, "\x03")
	same(t, "its error", e, api.OK)
}

// Promise 8.3: all verdicts from 0 to 255 are what they were.
func TestAllVerdicts(t *testing.T) {
	x := fresh(t)
	all := keys(256)
	for some := range slices.Chunk(all, api.MaxBatch) {
		first := slices.Index(all, some[0])
		ok(t, "Keep", x.Keep(some, numbers(256)[first:first+len(some)]))
	}
	sure(t, "all", x, model{}.found(all, numbers(256)))
}

// Promise 8.3: one key twice has the last verdict.
func TestOneKeyTwice(t *testing.T) {
	x := fresh(t)
	ok(t, "Keep", x.Keep([]string{"a", "b", "a"}, []int{1, 2, 3}))
	m := model{}.found([]string{"a", "b"}, []int{3, 2})
	sure(t, "twice in one", x, m)
	ok(t, "Keep", x.Keep([]string{"b", "b"}, []int{200, 0}))
	sure(t, "twice again", x, m.found([]string{"b"}, []int{0}))
}

// Promise 8.3: what may not be is not kept, and nothing beside it is, wherever it stands.
func TestVerdictsThatMayNotBe(t *testing.T) {
	x := fresh(t)
	x.keep(t, "a", 1)
	m := model{}.found([]string{"a"}, []int{1})
	changes := x.disk.Changes()
	for _, l := range [][]int{nil, {1}, {1, 2, 3}, numbers(100)} {
		same(t, "unlike lists", x.Keep([]string{"a", "b"}, l), api.ErrArg)
	}
	same(t, "no keys", x.Keep(nil, []int{1}), api.ErrArg)
	for i := range 3 {
		for _, long := range []string{strings.Repeat("k", 33), strings.Repeat("k", 64), longestText} {
			l := []string{"a", "b", "c"}
			l[i] = long
			same(t, "a key that is too long", x.Keep(l, []int{5, 6, 7}), api.ErrArg)
		}
		for _, n := range []int{-1, 256, math.MinInt, math.MaxInt, 1 << 32, 1<<32 + 1} {
			l := []int{5, 6, 7}
			l[i] = n
			same(t, "a verdict that may not be", x.Keep([]string{"a", "b", "c"}, l), api.ErrArg)
		}
	}
	unchanged(t, "nothing is kept", x, m, changes)
}

// Promise 8.3: more than store.Apply takes: its error, and none is kept; what may not be goes ahead of it.
func TestManyVerdicts(t *testing.T) {
	x := fresh(t)
	x.keep(t, "a", 1)
	m := model{}.found([]string{"a"}, []int{1})
	changes := x.disk.Changes()
	for _, n := range []int{api.MaxBatch + 1, 1000} {
		same(t, "Keep", x.Keep(keys(n), numbers(n)), api.ErrMany)
		same(t, "one key", x.Keep(slices.Repeat([]string{"a"}, n), numbers(n)), api.ErrMany)
		l := numbers(n)
		l[n-1] = 256
		same(t, "a verdict that may not be", x.Keep(keys(n), l), api.ErrArg)
		same(t, "unlike lists", x.Keep(keys(n), numbers(n-1)), api.ErrArg)
		same(t, "a key that is too long", x.Keep(append(keys(n-1), strings.Repeat("k", 33)), numbers(n)), api.ErrArg)
	}
	unchanged(t, "nothing is kept", x, m, changes)
	ok(t, "the most", x.Keep(keys(api.MaxBatch), numbers(api.MaxBatch)))
	sure(t, "the most", x, m.found(keys(api.MaxBatch), numbers(api.MaxBatch)))
	x.disk.Crash(0, 0)
	same(t, "without power", x.Keep(keys(api.MaxBatch+1), numbers(api.MaxBatch+1)), api.ErrMany)
	same(t, "wrong ones without power", x.Keep([]string{"a"}, nil), api.ErrArg)
}

// Promise 8.3: verdicts are told apart from texts and commits, whatever their keys.
func TestVerdictsApart(t *testing.T) {
	x := fresh(t)
	first := x.add(t, "a", "")
	l := []string{first.ID, first.Source, highest(0), "b", "c", "o", "v", "vv"}
	ok(t, "Keep", x.Keep(l, numbers(len(l))))
	sure(t, "apart", x, model{}.behind("a", "").found(l, numbers(len(l))))
	n, is := x.Verdict("vvv")
	same(t, "a key that is not there", is, false)
	same(t, "its verdict", n, 0)
}

// Rule R2: what is handed in is not changed, and may be changed later; what is answered is the caller's own.
func TestVerdictsAreTheCallersOwn(t *testing.T) {
	x := fresh(t)
	l, n := keys(3), numbers(3)
	ok(t, "Keep", x.Keep(l, n))
	m := model{}.found(l, n)
	same(t, "the keys", slices.Equal(l, keys(3)), true)
	same(t, "the verdicts", slices.Equal(n, numbers(3)), true)
	l[0], n[0] = "other", 9
	all := x.Verdicts()
	all["new"] = 1
	delete(all, "key 000")
	sure(t, "changed lists", x, m)
	before := x.Verdicts()
	x.keep(t, "later", 1)
	same(t, "verdicts from ahead of a Keep", maps.Equal(before, m.verdicts), true)
}

// Rule R1: what stands behind a verdict's key and is no byte is no verdict.
func TestBrokenVerdicts(t *testing.T) {
	x := fresh(t)
	x.keep(t, "a", 1)
	for _, bytes := range []string{"", "ab", longestText} {
		x.force(t, "vb", bytes)
		n, is := x.Verdict("b")
		same(t, "Verdict", n, 0)
		same(t, "whether there is one", is, false)
		same(t, "Verdicts", maps.Equal(x.Verdicts(), map[string]int{"a": 1}), true)
	}
}
