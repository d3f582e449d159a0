package interp

import (
	"reflect"
	"slices"
	"strconv"
	"strings"
	"testing"

	"cupel/api"
	"cupel/ast"
	"cupel/parse"
)

func same[T comparable](t *testing.T, what string, got, want T) {
	t.Helper()
	if got != want {
		t.Errorf("%s: %v, not %v", what, got, want)
	}
}

// short is a text that may be told of a failure.
func short(s string) string {
	if len(s) > 600 {
		s = s[:300] + " .. " + s[len(s)-300:]
	}
	return strconv.Quote(s)
}

// treeOf is the tree of a text, which must have one.
func treeOf(t *testing.T, s string) api.Node {
	t.Helper()
	n, at, e := parse.Program(s)
	if e != api.OK {
		t.Fatalf("%s is no text: place %d, error %d", short(s), at, e)
	}
	return n
}

// told is a cover as a text: f1 f2 t1.
func told(sites []api.Site) string {
	var words []string
	for _, s := range sites {
		words = append(words, s.Name+strconv.Itoa(s.Node))
	}
	return strings.Join(words, " ")
}

// run is what a run answers, which must be OK, and the same when it is asked for twice; the tree must stay as it was.
func run(t *testing.T, p api.Node, test string, fuel int) api.Result {
	t.Helper()
	before := ast.Clone(p)
	got, e := Run(p, test, fuel)
	if e != api.OK {
		t.Fatalf("%s: error %d", short(ast.Print(p)), e)
	}
	again, e := Run(p, test, fuel)
	if e != api.OK || !sameResult(got, again) {
		t.Errorf("%s: asked twice %v and %v, error %d", short(ast.Print(p)), got, again, e)
	}
	if !reflect.DeepEqual(ast.Clone(p), before) {
		t.Errorf("%s: what was handed in does not stay", short(ast.Print(p)))
	}
	return got
}

func sameResult(a, b api.Result) bool {
	return a.Outcome == b.Outcome && a.Steps == b.Steps && slices.Equal(a.Cover, b.Cover)
}

// ends tells that the test t of a text ends so, behind so many steps; it is the result. All fuel below these steps must be too little, and all above the same.
func ends(t *testing.T, s string, outcome, steps int) api.Result {
	t.Helper()
	p := treeOf(t, s)
	got := run(t, p, "t", api.MaxFuel)
	if got.Outcome != outcome || got.Steps != steps {
		t.Errorf("%s: outcome %d, %d steps, not outcome %d, %d steps", short(s), got.Outcome, got.Steps, outcome, steps)
		return got
	}
	if enough := run(t, p, "t", steps); !sameResult(enough, got) {
		t.Errorf("%s: with just as much fuel %v, not %v", short(s), enough, got)
	}
	for fuel := max(0, steps-300); fuel < steps; fuel++ {
		if less := run(t, p, "t", fuel); less.Outcome != api.TrapFuel || less.Steps != fuel {
			t.Errorf("%s: with fuel of %d outcome %d, %d steps", short(s), fuel, less.Outcome, less.Steps)
		}
	}
	return got
}

// passes tells that the test t of a text passes.
func passes(t *testing.T, s string) {
	t.Helper()
	if got := run(t, treeOf(t, s), "t", api.MaxFuel); got.Outcome != api.Pass {
		t.Errorf("%s: outcome %d behind %d steps", short(s), got.Outcome, got.Steps)
	}
}

// covers tells that the test t of a text ends so, behind so many steps, with just this cover.
func covers(t *testing.T, s string, outcome, steps int, cover string) {
	t.Helper()
	got := ends(t, s, outcome, steps)
	same(t, short(s)+": its cover", told(got.Cover), cover)
}

// order is the nodes that the test t of a text comes to, in the order in which it comes to each of them first: that of the step that a little more fuel lets it take.
func order(t *testing.T, s string) string {
	t.Helper()
	p := treeOf(t, s)
	whole := run(t, p, "t", api.MaxFuel)
	var list, before []api.Site
	for fuel := range whole.Steps + 1 {
		now := run(t, p, "t", fuel).Cover
		if len(now) > len(before)+1 {
			t.Errorf("%s: one step more, and %d nodes", short(s), len(now)-len(before))
		}
		for _, site := range now {
			if !slices.Contains(before, site) {
				list = append(list, site)
			}
		}
		before = now
	}
	return told(list)
}

// Short words for nodes.

func tree(kind int, kids ...api.Node) api.Node { return api.Node{Kind: kind, Kids: kids} }

func named(kind int, s string, kids ...api.Node) api.Node {
	return api.Node{Kind: kind, S: s, Kids: kids}
}

func typed(kind, t int, s string, kids ...api.Node) api.Node {
	return api.Node{Kind: kind, T: t, S: s, Kids: kids}
}

func whole(n int64) api.Node { return api.Node{Kind: api.NodeInt, N: n} }

func truth(n int64) api.Node { return api.Node{Kind: api.NodeBool, N: n} }

func bin(a api.Node, s string, b api.Node) api.Node { return named(api.NodeBin, s, a, b) }

func block(kids ...api.Node) api.Node { return tree(api.NodeBlock, kids...) }

func program(declarations ...api.Node) api.Node { return tree(api.NodeProgram, declarations...) }
