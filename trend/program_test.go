package trend

import (
	"reflect"
	"strings"
	"testing"

	"cupel/api"
	"cupel/ast"
	"cupel/cas"
)

// Promise 19.1: Program: a commit's program, with the types of its expressions.
func TestProgram(t *testing.T) {
	x := fresh(t)
	sources := []string{
		increment,
		"",
		" // nothing but a note",
		"test t { }",
		"var v float = -1.5; func g(a float) bool { v = v + a; return v < 2.0; } test t { assert g(1.0) || false; }",
		strings.Repeat(" ", api.MaxSource-len(increment)) + increment,
		increment, // behind another parent it is another commit
	}
	ids := x.row(t, sources...)
	x.untouched(t, "Program", func() {
		for i, source := range sources {
			programIs(t, short(source), x, ids[i], source)
		}
	})
	p, _ := Program(x.Store, ids[0])
	same(t, "its form", ast.Print(p), "func f(a int) int { return (a + 1); }\ntest t { assert (f(1) == 2); }\n")
	sum, _ := ast.At(p, 5)
	same(t, "the sum's type", sum.T, api.TypeInt)
	x = x.again(t)
	for i, source := range sources {
		programIs(t, "behind a loss of power", x, ids[i], source)
	}
}

// Promise 19.1: Program: cas's errors: a commit that is not there, whatever its name.
func TestNoCommit(t *testing.T) {
	x := fresh(t)
	for _, what := range []string{"an empty store", "a store with a commit"} {
		for _, id := range []string{"", "c", "none", cas.Digest(increment), cas.ID(increment, "other"), cas.ID(increment+" ", ""), strings.Repeat("k", 33), strings.Repeat("k", 63), strings.Repeat("k", 64), strings.Repeat("k", 100000)} {
			x.untouched(t, what, func() { nothing(t, what, x.Store, id, api.ErrCommit) })
		}
		x.add(t, increment, "")
	}
	id := cas.ID(increment, "")
	programIs(t, "the commit that is there", x, id, increment)
	nothing(t, "a piece of its name", x.Store, id[:31], api.ErrCommit)
	nothing(t, "more than its name", x.Store, id+"\x00", api.ErrCommit)
}

// Promise 19.1: Program, Row, History, Select: kill.Source's errors; a text that is no program's may be committed all the same.
func TestBrokenPrograms(t *testing.T) {
	x := fresh(t)
	good := x.add(t, increment, "")
	for source, want := range broken() {
		alone, behind := x.add(t, source, ""), x.add(t, source, good)
		x.untouched(t, source, func() { nothing(t, source, x.Store, alone, want) })
		noProgram(t, source, x.Store, behind, want)
		noRow(t, source, x.Store, behind, want)
		noHistory(t, source, x.Store, behind, want)
		noSelect(t, source, x.Store, behind, want)
	}
	same(t, "verdicts", len(x.Verdicts()), 0)
}

// Rule R2: what is answered is the caller's own.
func TestProgramIsOwn(t *testing.T) {
	x := fresh(t)
	id := x.add(t, increment, "")
	p, e := Program(x.Store, id)
	ok(t, "Program", e)
	q, e := Program(x.Store, id)
	ok(t, "Program", e)
	wipe(p)
	if !reflect.DeepEqual(q, checked(t, increment)) {
		t.Error("two answers share something")
	}
	programIs(t, "behind a change of an answer", x, id, increment)
}

// wipe changes all of a tree in its place.
func wipe(p api.Node) {
	for i := range p.Kids {
		wipe(p.Kids[i])
		p.Kids[i] = api.Node{Kind: 99}
	}
}
