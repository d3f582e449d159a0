package ast

import (
	"fmt"
	"math"
	"slices"
	"testing"

	"cupel/api"
)

// gathered is all that All yields.
func gathered(n api.Node) (places []int, nodes []api.Node) {
	for place, node := range All(n) {
		places = append(places, place)
		nodes = append(nodes, node)
	}
	return places, nodes
}

// Promise 10.2: how many nodes, and each of them with its place, in order.
func TestCountAndAll(t *testing.T) {
	for i, n := range someTrees() {
		want := flat(n)
		same(t, "Count", Count(n), len(want))
		places, nodes := gathered(n)
		if len(places) != len(want) {
			t.Fatalf("tree %d: %d nodes, not %d", i, len(places), len(want))
		}
		for at := range want {
			same(t, "the place", places[at], at)
			sameTree(t, "the node", nodes[at], want[at])
		}
	}
}

// Promise 10.2: a lone node, and the kids with all of their own, by hand.
func TestPlaces(t *testing.T) {
	places, nodes := gathered(whole(7))
	same(t, "a lone node", len(places), 1)
	same(t, "its place", places[0], 0)
	sameTree(t, "it", nodes[0], whole(7))
	n := named(1, "a", named(2, "b", named(3, "c"), named(4, "d")), named(5, "e"), named(6, "f", named(7, "g", named(8, "h"))), named(9, "i"))
	text := ""
	for place, x := range All(n) {
		text += fmt.Sprint(place, x.S, " ")
	}
	same(t, "the places", text, "0a 1b 2c 3d 4e 5f 6g 7h 8i ")
	same(t, "Count", Count(n), 9)
	same(t, "kids that are none", Count(api.Node{Kids: []api.Node{}}), 1)
}

// Promise 10.2: deep and wide trees.
func TestCountAndAllOfGreatTrees(t *testing.T) {
	deep := chain(api.NodeUnary, 1<<16)
	same(t, "deep", Count(deep), 1<<16)
	same(t, "wide", Count(wide(100000)), 100001)
	next := 0
	for place, n := range All(wide(100000)) {
		if place != next || place > 0 && n.N != int64(place-1) {
			t.Fatalf("%d behind %d: %d", place, next, n.N)
		}
		next++
	}
	same(t, "wide", next, 100001)
	next = 0
	for place, n := range All(chain(api.NodeUnary, 1000)) {
		if place != next || Count(n) != 1000-place {
			t.Fatalf("%d behind %d: %d nodes", place, next, Count(n))
		}
		next++
	}
	same(t, "deep", next, 1000)
}

// Promise 10.2: going over the nodes may end at each of them, and begin anew.
func TestAllEndedEarly(t *testing.T) {
	n := sample()
	all, count := All(n), Count(n)
	for end := range count {
		last := -1
		for place := range all {
			last = place
			if place == end {
				break
			}
		}
		same(t, "the last place", last, end)
	}
	for range 2 {
		seen := 0
		for range all {
			seen++
		}
		same(t, "all of them again", seen, count)
	}
	pairs := 0
	for range all {
		for range all {
			pairs++
		}
	}
	same(t, "within one another", pairs, count*count)
	all(func(int, api.Node) bool { pairs++; return false })
	same(t, "none behind a no", pairs, count*count+1)
}

// Rule R2: All is of the tree at the call, and what it yields is the caller's own.
func TestAllIsTheCallersOwn(t *testing.T) {
	n := sample()
	was := copied(n)
	all := All(n)
	spoil(&n)
	for range 2 {
		want := flat(was)
		for place, x := range all {
			sameTree(t, "a node", x, want[place])
			spoil(&x)
		}
	}
}

// Promise 10.2: At at each place, at one behind the last, and below 0.
func TestAt(t *testing.T) {
	for _, n := range someTrees() {
		want := flat(n)
		for place := range want {
			got, is := At(n, place)
			same(t, "At", is, true)
			sameTree(t, "At", got, want[place])
		}
		for _, place := range []int{len(want), len(want) + 1, -1, -2, math.MinInt, math.MaxInt} {
			got, is := At(n, place)
			same(t, "no place", is, false)
			sameTree(t, "no place", got, api.Node{})
		}
	}
}

// replaced is a tree with another node at a place, by how many nodes each kid has.
func replaced(n api.Node, place int, by api.Node) api.Node {
	if place == 0 {
		return copied(by)
	}
	out := copied(n)
	place--
	for i, kid := range n.Kids {
		size := len(flat(kid))
		if place >= 0 && place < size {
			out.Kids[i] = replaced(kid, place, by)
		}
		place -= size
	}
	return out
}

// Promise 10.2: Replace at each place, by a lone node and by a tree; the tree and the node that is put in stay as they were.
func TestReplace(t *testing.T) {
	by := named(api.NodeCall, "by", whole(1), named(api.NodeCall, "of", whole(2)))
	for _, n := range someTrees() {
		was, count := copied(n), len(flat(n))
		for place := 0; place < count; place += 1 + count/50 {
			for _, other := range []api.Node{{}, whole(3), by} {
				sameTree(t, "Replace", Replace(n, place, other), replaced(was, place, other))
			}
		}
		sameTree(t, "the last place", Replace(n, count-1, by), replaced(was, count-1, by))
		for _, place := range []int{count, count + 1, -1, -2, math.MinInt, math.MaxInt} {
			sameTree(t, "no place", Replace(n, place, by), was)
		}
		sameTree(t, "the tree", n, was)
	}
	sameTree(t, "what is put in", by, named(api.NodeCall, "by", whole(1), named(api.NodeCall, "of", whole(2))))
}

// Promise 10.2: what stands behind the place moves by what was put in.
func TestReplaceMovesPlaces(t *testing.T) {
	n := named(1, "a", named(2, "b", named(3, "c")), named(4, "d"))
	got := Replace(n, 1, whole(9))
	same(t, "fewer nodes", Count(got), 3)
	x, is := At(got, 2)
	same(t, "the last one", x.S, "d")
	same(t, "is there", is, true)
	got = Replace(n, 3, n)
	same(t, "more nodes", Count(got), 7)
	x, _ = At(got, 3)
	sameTree(t, "the tree in itself", x, n)
	sameTree(t, "for 0", Replace(n, 0, whole(9)), whole(9))
	same(t, "a place of what was put in", Print(Replace(named(api.NodeUnary, "-", whole(1)), 1, named(api.NodeUnary, "-", whole(2)))), "--2")
}

// Rule R2: what Replace, At, Clone, Bare and Find answer shares nothing with what they were given.
func TestAnswersAreTheCallersOwn(t *testing.T) {
	was := sample()
	calls := map[string]func(n, by api.Node) api.Node{
		"Clone":               func(n, by api.Node) api.Node { return Clone(n) },
		"Bare":                func(n, by api.Node) api.Node { return Bare(n) },
		"At 0":                func(n, by api.Node) api.Node { x, _ := At(n, 0); return x },
		"At 3":                func(n, by api.Node) api.Node { x, _ := At(n, 3); return x },
		"Find":                func(n, by api.Node) api.Node { x, _ := Find(n, "f"); return x },
		"Replace at 0":        func(n, by api.Node) api.Node { return Replace(n, 0, by) },
		"Replace at 7":        func(n, by api.Node) api.Node { return Replace(n, 7, by) },
		"Replace at no place": func(n, by api.Node) api.Node { return Replace(n, -1, by) },
	}
	for what, call := range calls {
		n, by := copied(was), copied(was)
		got := call(n, by)
		keep := copied(got)
		spoil(&n)
		spoil(&by)
		sameTree(t, what+", when what was given is changed", got, keep)
		n, by = copied(was), copied(was)
		got = call(n, by)
		spoil(&got)
		sameTree(t, what+", when the answer is changed", n, was)
		sameTree(t, what+", when the answer is changed", by, was)
	}
}

// Rule R2: nor do two parts of one answer share anything.
func TestReplaceByThePartsOfOne(t *testing.T) {
	shared := named(api.NodeCall, "f", whole(1))
	got := Replace(Replace(node(api.NodeBlock, whole(0), whole(0)), 1, shared), 3, shared)
	spoil(&got.Kids[0])
	sameTree(t, "the other one", got.Kids[1], shared)
	got = Clone(node(api.NodeBlock, shared, shared))
	spoil(&got.Kids[0])
	sameTree(t, "the other one", got.Kids[1], shared)
}

// others is all trees that differ from one in a single field, or a single kid, of a single node.
func others(n api.Node) []api.Node {
	var list []api.Node
	for place, x := range flat(n) {
		more := func(change func(x *api.Node)) {
			y := copied(x)
			change(&y)
			list = append(list, replaced(n, place, y))
		}
		more(func(x *api.Node) { x.Kind++ })
		more(func(x *api.Node) { x.T++ })
		more(func(x *api.Node) { x.S += "a" })
		more(func(x *api.Node) { x.N++ })
		more(func(x *api.Node) { x.N ^= math.MinInt64 })
		more(func(x *api.Node) { x.Kids = append(x.Kids, api.Node{}) })
		if len(x.Kids) > 0 {
			more(func(x *api.Node) { x.Kids = x.Kids[1:] })
			more(func(x *api.Node) { x.Kids = x.Kids[:len(x.Kids)-1] })
		}
		if len(x.Kids) > 1 && !equal(x.Kids[0], x.Kids[1]) {
			more(func(x *api.Node) { x.Kids[0], x.Kids[1] = x.Kids[1], x.Kids[0] })
		}
	}
	return list
}

// Promise 10.2: a clone is the same; and trees of which one field, or one kid, is another one are not.
func TestCloneAndSame(t *testing.T) {
	for _, n := range someTrees() {
		got := Clone(n)
		sameTree(t, "Clone", got, n)
		same(t, "Same", Same(n, got), true)
		same(t, "Same of itself", Same(n, n), true)
		same(t, "Same of a copy", Same(copied(n), n), true)
	}
	n := sample()
	for i, other := range others(n) {
		if Same(n, other) || Same(other, n) {
			t.Errorf("other tree %d is told as the same", i)
		}
	}
}

// Rule R3: lists that are empty and those that are nil are the same.
func TestSameOfEmptyLists(t *testing.T) {
	a, b := api.Node{Kind: 6}, api.Node{Kind: 6, Kids: []api.Node{}}
	same(t, "Same", Same(a, b), true)
	same(t, "Same", Same(b, a), true)
	same(t, "Encode", Encode(a), Encode(b))
	same(t, "Hash", Hash(a), Hash(b))
	same(t, "within others", Same(node(1, a), node(1, b)), true)
}

// Promise 10.2: deep trees.
func TestCloneAndSameOfGreatTrees(t *testing.T) {
	deep := chain(api.NodeUnary, 1<<16)
	same(t, "deep", Same(deep, Clone(deep)), true)
	other := Replace(deep, 1<<16-1, whole(1))
	same(t, "another one at the end", Same(deep, other), false)
	same(t, "Bare", Count(Bare(deep)), 1<<16)
	same(t, "wide", Same(wide(100000), Clone(wide(100000))), true)
}

// Promise 10.2: Bare takes the types from expressions alone, but for NodeConv.
func TestBare(t *testing.T) {
	expressions := []int{20, 21, 22, 23, 24, 25, 26}
	for kind := -2; kind < 40; kind++ {
		for _, kindOfType := range []int{1, 2, 3, 0, -1, 200} {
			n := api.Node{Kind: kind, T: kindOfType, S: "s", N: 5}
			want := n
			if slices.Contains(expressions, kind) {
				want.T = 0
			}
			sameTree(t, "lone", Bare(n), want)
			sameTree(t, "as a kid", Bare(node(api.NodeBlock, n)), node(api.NodeBlock, want))
			sameTree(t, "below an expression", Bare(typed(api.NodeBin, 1, "+", n, n)), named(api.NodeBin, "+", want, want))
			sameTree(t, "below a conversion", Bare(typed(api.NodeConv, 2, "", n)), typed(api.NodeConv, 2, "", want))
		}
	}
}

// Promise 10.2: Bare of a whole program: the types that stand in its text are left.
func TestBareOfAProgram(t *testing.T) {
	n := sample()
	was := copied(n)
	got := Bare(n)
	sameTree(t, "the tree itself", n, was)
	sameTree(t, "twice", Bare(got), got)
	same(t, "how many nodes", Count(got), Count(n))
	types := map[int]int{}
	for _, x := range flat(got) {
		if x.T != 0 {
			types[x.Kind]++
		}
	}
	same(t, "globals", types[api.NodeGlobal], 1)
	same(t, "functions", types[api.NodeFunc], 1)
	same(t, "parameters", types[api.NodeParam], 2)
	same(t, "conversions", types[api.NodeConv], 1)
	same(t, "kinds in all", len(types), 4)
}

// Promise 10.2: the first declaration with a name, of each kind; names that stand twice, and none.
func TestFind(t *testing.T) {
	f, g, h := typed(api.NodeFunc, 1, "f", node(api.NodeBlock)), typed(api.NodeGlobal, 2, "g", Float("1.0")), named(api.NodeTest, "h", node(api.NodeBlock))
	again := named(api.NodeTest, "f", node(api.NodeBlock, node(api.NodeSkip)))
	p := node(api.NodeProgram, g, f, h, again, typed(api.NodeGlobal, 3, "h", yes()))
	for _, want := range []api.Node{f, g, h} {
		got, is := Find(p, want.S)
		same(t, want.S, is, true)
		sameTree(t, want.S, got, want)
	}
	got, is := Find(node(api.NodeProgram, again, f), "f")
	same(t, "the other order", is, true)
	sameTree(t, "the other order", got, again)
	for _, name := range []string{"", "x", "F", "ff", "f ", "f\x00"} {
		got, is := Find(p, name)
		same(t, name, is, false)
		sameTree(t, name, got, api.Node{})
	}
}

// Promise 10.2: names that stand elsewhere are no declarations': parameters, variables, calls.
func TestFindOfOtherNames(t *testing.T) {
	p := sample()
	for _, name := range []string{"a", "b", "x"} {
		_, is := Find(p, name)
		same(t, name, is, false)
	}
	for _, q := range []api.Node{{}, whole(1), node(api.NodeProgram), p.Kids[1], node(api.NodeProgram, name("a"), node(api.NodeProgram, p))} {
		for _, s := range []string{"", "a", "f", "g"} {
			got, is := Find(q, s)
			same(t, s, is, false)
			sameTree(t, s, got, api.Node{})
		}
	}
}

// Promise 10.2: the names of each kind, in their order, twice where they stand twice.
func TestNames(t *testing.T) {
	p := node(api.NodeProgram, named(api.NodeFunc, "z"), named(api.NodeGlobal, "y"), named(api.NodeFunc, "a"), named(api.NodeTest, "t"),
		named(api.NodeFunc, "z"), named(api.NodeTest, "a"), named(api.NodeTest, "t"), name("v"), named(api.NodeParam, "p"))
	want := map[int][]string{api.NodeFunc: {"z", "a", "z"}, api.NodeGlobal: {"y"}, api.NodeTest: {"t", "a", "t"}}
	for kind := -1; kind < 40; kind++ {
		if got := Names(p, kind); !slices.Equal(got, want[kind]) {
			t.Errorf("kind %d: %v, not %v", kind, got, want[kind])
		}
	}
	for _, q := range []api.Node{{}, whole(1), node(api.NodeProgram), sample().Kids[1]} {
		for _, kind := range allKinds {
			same(t, "none", len(Names(q, kind)), 0)
		}
	}
	got := Names(p, api.NodeFunc)
	got[0] = "?"
	same(t, "the caller's own", p.Kids[0].S+Names(p, api.NodeFunc)[0], "zz")
}
