package interp

import (
	"math"
	"slices"
	"strings"
	"testing"

	"cupel/api"
	"cupel/ast"
)

// Promise 14.1, the cover: sorted by the declarations' names, then by places as numbers, whatever the order of declarations and of steps.
func TestCoverIsSorted(t *testing.T) {
	const s = "func b() int { return 1; } func Z() int { return 1; } func a1() int { return 1; } func aa() int { return 1; } func _() int { return 1; } func a() int { return 1; } "
	const sorted = "Z1 Z2 Z3 _1 _2 _3 a1 a2 a3 a11 a12 a13 aa1 aa2 aa3 b1 b2 b3 "
	covers(t, s+"test t { b(); a(); Z(); aa(); a1(); _(); }", 1, 31, sorted+"t1 t2 t3 t4 t5 t6 t7 t8 t9 t10 t11 t12 t13")
	covers(t, s+"test t { _(); Z(); a(); b(); a1(); aa(); _(); }", 1, 36, sorted+"t1 t2 t3 t4 t5 t6 t7 t8 t9 t10 t11 t12 t13 t14 t15")
	p := treeOf(t, s+"test t { b(); a(); Z(); aa(); a1(); _(); }")
	want := run(t, p, "t", api.MaxFuel)
	slices.Reverse(p.Kids)
	if got := run(t, p, "t", api.MaxFuel); !sameResult(got, want) {
		t.Errorf("with the declarations the other way round: %v, not %v", got, want)
	}
	text := "test t { "
	for range 32 {
		text += "skip; "
	}
	got := run(t, treeOf(t, text+"}"), "t", api.MaxFuel)
	for i, site := range got.Cover {
		same(t, "a site", site, api.Site{Name: "t", Node: i + 1})
	}
	same(t, "how many sites", len(got.Cover), 33)
}

// Promise 14.1, the cover: each node once, however often it was run; those that were not come to are not there.
func TestCoverHasEachNodeOnce(t *testing.T) {
	covers(t, "func f() int { return 1; } test t { f(); f(); f(); }", 1, 16, "f1 f2 f3 t1 t2 t3 t4 t5 t6 t7")
	covers(t, "test t { i := 0; for i < 9 { i = i + 1; } }", 1, 79, "t1 t2 t3 t4 t5 t6 t7 t8 t9 t10 t11 t12")
	covers(t, "func f() int { return 1; } func g() int { return 2; } test u { g(); } test t { if false { f(); } else { g(); } }", 1, 9, "g1 g2 g3 t1 t2 t3 t7 t8 t9")
	covers(t, "func f(a int, b int) int { if a < b { return a; } return b; } test t { f(1, 2); f(2, 3); }", 1, 25, "f3 f4 f5 f6 f7 f8 f9 f10 t1 t2 t3 t4 t5 t6 t7 t8 t9")
	covers(t, "func f(a int, b int) int { if a < b { return a; } return b; } test t { f(1, 2); f(4, 3); }", 1, 24, "f3 f4 f5 f6 f7 f8 f9 f10 f11 f12 t1 t2 t3 t4 t5 t6 t7 t8 t9") // both ways
}

// Promise 14.1, the cover: sites are a declaration's name and ast's place in it.
func TestSitesArePlaces(t *testing.T) {
	p := treeOf(t, all)
	got := run(t, p, "t", api.MaxFuel)
	for _, site := range got.Cover {
		d, is := ast.Find(p, site.Name)
		if !is {
			t.Errorf("no declaration of the name %s", site.Name)
		}
		if n, is := ast.At(d, site.Node); !is || n.Kind < api.NodeBlock {
			t.Errorf("no node that is run at %v", site)
		}
	}
	same(t, "its cover", told(got.Cover), "f4 f5 f6 f7 f8 f9 f10 f11 f12 f13 f14 f15 f16 f17 f18 f19 f20 f21 f22 f23 f24 f25 f26 f27 f28"+
		" k1 k2 k3 k4 k5 k6 k7 k8 k9 k10 k11 k12 k13 k14 k15 k16 k17 k18 k19 k20 k21 k22 k23 k24 k25 k26 k27 t1 t2 t3 t4 t5 t6 t7 t8 t9 t10 t11 t12 t13 t14 t15")
}

// Promise 14.1: Covers, of each node of a program and of sites that are none.
func TestCovers(t *testing.T) {
	p := treeOf(t, "func f() int { return 1; } func g() int { return 2; } test u { g(); } test t { if false { f(); } else { g(); } }")
	r := run(t, p, "t", api.MaxFuel)
	in := " g1 g2 g3 t1 t2 t3 t7 t8 t9 "
	for _, name := range []string{"f", "g", "t", "u", "", "T", "tt", "g "} {
		for _, place := range []int{math.MinInt, -9, -1, 0, 1, 2, 3, 4, 5, 6, 7, 8, 9, 10, 11, 12, 1000, 1<<32 + 1, math.MaxInt} {
			s := api.Site{Name: name, Node: place}
			same(t, "whether it came to "+told([]api.Site{s}), Covers(r, s), strings.Contains(in, " "+told([]api.Site{s})+" "))
			same(t, "whether nothing came there", Covers(api.Result{}, s), false)
		}
	}
}

// Promise 14.1: Covers goes by the cover alone, in any order, and changes nothing.
func TestCoversOfAnyResult(t *testing.T) {
	sites := []api.Site{{Name: "b", Node: 3}, {Name: "a", Node: 7}, {Name: "b", Node: 1}, {}, {Name: "a", Node: -5}, {Name: "a", Node: 7}}
	before := slices.Clone(sites)
	for _, outcome := range []int{0, 1, 6, -1, 99} {
		r := api.Result{Outcome: outcome, Steps: -outcome, Cover: sites}
		for _, s := range sites {
			same(t, "one that is there", Covers(r, s), true)
		}
		for _, s := range []api.Site{{Name: "a"}, {Name: "b", Node: 2}, {Name: "a", Node: 3}, {Node: 1}, {Name: "c", Node: 7}} {
			same(t, "one that is not", Covers(r, s), false)
		}
	}
	same(t, "whether it stays", slices.Equal(sites, before), true)
}

// Rule R2: what a run answers is the caller's own.
func TestAnswersAreTheCallersOwn(t *testing.T) {
	p := treeOf(t, all)
	first := run(t, p, "t", api.MaxFuel)
	want := slices.Clone(first.Cover)
	second := run(t, p, "t", api.MaxFuel)
	for i := range first.Cover {
		first.Cover[i] = api.Site{Name: "x", Node: -1}
	}
	_ = append(first.Cover[:1], api.Site{}, api.Site{})
	same(t, "whether another answer stays", slices.Equal(second.Cover, want), true)
	same(t, "whether it is answered again", slices.Equal(run(t, p, "t", api.MaxFuel).Cover, want), true)
}
