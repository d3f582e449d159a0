package mutate

import (
	"math"
	"testing"

	"cupel/api"
	"cupel/ast"
)

// each tells what each mutant of a text is, in their order: the function's own text.
func each(t *testing.T, s string, want ...string) {
	t.Helper()
	p := treeOf(t, s)
	list := List(p)
	same(t, short(s)+": how many", len(list), len(want))
	for i := range min(len(list), len(want)) {
		got, e := Apply(p, list[i])
		f, _ := ast.Find(got, list[i].Func)
		same(t, "the error", e, api.OK)
		same(t, "the text", ast.Print(program(f)), want[i]+"\n")
	}
}

// Promise 15.1: the programs of mutants, by hand: one of each turn.
func TestApply(t *testing.T) {
	each(t, "func f(a int) bool { return a < 5; }",
		"func f(a int) bool { return (a <= 5); }", "func f(a int) bool { return (a >= 5); }",
		"func f(a int) bool { return (a < 6); }", "func f(a int) bool { return (a < 0); }")
	each(t, "func f(a bool) bool { return !a == true; }",
		"func f(a bool) bool { return (!a != true); }", "func f(a bool) bool { return (a == true); }", "func f(a bool) bool { return (!a == false); }")
	each(t, "func f() float { x := 0.0; x = -1.5; f(); return x; }",
		"func f() float { x := 1.0; x = -1.5; f(); return x; }", "func f() float { x := 0.0; skip; f(); return x; }",
		"func f() float { x := 0.0; x = 1.5; f(); return x; }", "func f() float { x := 0.0; x = -0.0; f(); return x; }",
		"func f() float { x := 0.0; x = -1.5; skip; return x; }")
	each(t, "func f() int { return 9223372036854775807 % 1; }",
		"func f() int { return (9223372036854775807 * 1); }", "func f() int { return (9223372036854775806 % 1); }",
		"func f() int { return (0 % 1); }", "func f() int { return (9223372036854775807 % 2); }")
	each(t, "func f(a int) int { if a > 0 { f(a - 1); } return a; }",
		"func f(a int) int { if (a >= 0) { f((a - 1)); } return a; }", "func f(a int) int { if (a <= 0) { f((a - 1)); } return a; }",
		"func f(a int) int { if (a > 1) { f((a - 1)); } return a; }", "func f(a int) int { if (a > 0) { skip; } return a; }",
		"func f(a int) int { if (a > 0) { f((a + 1)); } return a; }", "func f(a int) int { if (a > 0) { f((a - 2)); } return a; }")
}

const someText = "var g int = 5; func f(a int) bool { x := -a; x = x * 3 % 2; if x < 5 { h(1.5, true); } else { g = g + 1; } return a >= x || !false; } test t { assert f(2) == true; g = 1; } func h(a float, b bool) float { for b { return -a / 0.0; } return a - 1.0; } func f2() int { return 0; } test u { h(1.0, false); }"

// onlyOther tells that a mutant's program has one other node in one function, and all else as it was.
func onlyOther(t *testing.T, p, got api.Node, m api.Mutant) {
	t.Helper()
	same(t, "how many declarations", len(got.Kids), len(p.Kids))
	for i, d := range p.Kids {
		if d.Kind != api.NodeFunc || d.S != m.Func {
			sameTree(t, "another declaration", got.Kids[i], d)
			continue
		}
		was, is := ast.At(d, m.Node)
		now, isNow := ast.At(got.Kids[i], m.Node)
		same(t, "a node", is && isNow, true)
		same(t, "another node", ast.Same(was, now), false)
		sameTree(t, "the turn", now, Turns(was)[m.Turn])
		sameTree(t, "with the node that it was", ast.Replace(got.Kids[i], m.Node, was), d)
	}
}

// Promise 15.1: each mutant of a program with all that turns: one other node in one function, all else as it was, and no two mutants alike.
func TestApplyEach(t *testing.T) {
	for _, p := range []api.Node{treeOf(t, someText), typesOf(t, treeOf(t, someText))} {
		was, texts := ast.Clone(p), map[string]int{}
		for m := range All(p) {
			got, e := Apply(p, m)
			same(t, "the error", e, api.OK)
			onlyOther(t, p, got, m)
			typesOf(t, got)
			texts[ast.Print(got)]++
		}
		same(t, "texts that are unlike", len(texts), len(List(p)))
		same(t, "mutants", len(texts), 29)
		sameTree(t, "what was handed in", p, was)
	}
}

// Promise 15.2: a mutant of a program with types has those that check finds.
func TestApplyKeepsTypes(t *testing.T) {
	p := typesOf(t, treeOf(t, someText))
	for m := range All(p) {
		got, _ := Apply(p, m)
		sameTree(t, "with types", got, typesOf(t, got))
	}
}

// refused tells that there is no such mutant.
func refused(t *testing.T, p api.Node, m api.Mutant) {
	t.Helper()
	was := ast.Clone(p)
	got, e := Apply(p, m)
	if e != api.ErrNone {
		t.Errorf("%v: error %d", m, e)
	}
	sameTree(t, "beside an error", got, api.Node{})
	sameTree(t, "the program", p, was)
}

// Promise 15.1: functions, nodes and turns that are not there.
func TestApplyOfNone(t *testing.T) {
	p := treeOf(t, "var g int = 5; func f(a int) bool { return a < 5; } test t { assert 1 < 2; } func h() int { return 1; }")
	for _, name := range []string{"", "g", "t", "a", "F", "f ", "ff", "x", "f\x00"} {
		for node := -1; node < 10; node++ {
			refused(t, p, api.Mutant{Func: name, Node: node})
		}
	}
	for _, node := range []int{-1, -2, 7, 8, 100, math.MinInt, math.MaxInt, 1 << 32, 4 + 1<<32} {
		refused(t, p, api.Mutant{Func: "f", Node: node})
	}
	for node, turns := range []int{0, 0, 0, 0, 2, 0, 2} { // the function, its parameter, its block, return, <, a, 5
		for turn := range 4 {
			m := api.Mutant{Func: "f", Node: node, Turn: turn}
			if turn >= turns {
				refused(t, p, m)
			} else if _, e := Apply(p, m); e != api.OK {
				t.Errorf("%v: error %d", m, e)
			}
		}
		for _, turn := range []int{-1, -2, math.MinInt, math.MaxInt, 1 << 32} {
			refused(t, p, api.Mutant{Func: "f", Node: node, Turn: turn})
		}
	}
	refused(t, p, api.Mutant{Func: "h", Node: 4})
	refused(t, program(), api.Mutant{})
	refused(t, api.Node{}, api.Mutant{})
	refused(t, p.Kids[1], api.Mutant{Func: "f", Node: 4}) // a function alone is no program that has it
}

// Promise 15.1: what is behind MaxSites is no mutant of the list, but its function, node and turn are there.
func TestApplyBehindMaxSites(t *testing.T) {
	p := treeOf(t, wide(402, 30))
	m := api.Mutant{Func: "f13", Node: 3 + 2*11}
	same(t, "the last one of the list", List(p)[399], api.Mutant{Func: "f13", Node: 3 + 2*9})
	got, e := Apply(p, m)
	same(t, "the error", e, api.OK)
	onlyOther(t, p, got, m)
}

// Promise 15.1: of a name that another declaration has, too, the function is meant; of two functions the first one. (No such program may be.)
func TestApplyOfANameThatStandsTwice(t *testing.T) {
	f := typed(api.NodeFunc, 1, "f", block(tree(api.NodeReturn, whole(1))))
	other := typed(api.NodeFunc, 1, "f", block(tree(api.NodeReturn, truth(1))))
	p := program(named(api.NodeTest, "f", block()), typed(api.NodeGlobal, 1, "f", whole(5)), f, other)
	got, e := Apply(p, api.Mutant{Func: "f", Node: 3})
	same(t, "the error", e, api.OK)
	sameTree(t, "the program", got, ast.Replace(p, 8, whole(2)))
	same(t, "the digest", ID(p, api.Mutant{Func: "f", Node: 3}), ID(program(f), api.Mutant{Func: "f", Node: 3}))
}

// Rule R2: what Apply answers is the caller's own.
func TestApplyIsTheCallersOwn(t *testing.T) {
	was := treeOf(t, someText)
	for m := range All(was) {
		p := ast.Clone(was)
		want, _ := Apply(was, m)
		got, _ := Apply(p, m)
		spoil(&p)
		sameTree(t, "when the program is changed", got, want)
		p = ast.Clone(was)
		got, _ = Apply(p, m)
		spoil(&got)
		sameTree(t, "when the answer is changed", p, was)
	}
}
