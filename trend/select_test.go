package trend

import (
	"strings"
	"testing"

	"cupel/api"
)

const pair = "var v int = 1; func f(a int) int { return a + v; } func g(a int) int { return a * 2; } test t { assert f(1) == 2; } test u { assert g(3) == 6; } test w { assert 1 < 2; }"

// Promise 19.1: Select: all tests of a commit without a parent, in their order, also those that others selected or ran.
func TestSelectWithoutParent(t *testing.T) {
	x := fresh(t)
	selects(t, "three tests", x, x.add(t, pair, ""), "t", "u", "w")
	selects(t, "the order of the text", x, x.add(t, "test z { } test a { } func f() int { return 1; } test m { }", ""), "z", "a", "m")
	selects(t, "no test", x, x.add(t, "func f() int { return 1; }", ""))
	selects(t, "nothing", x, x.add(t, "", ""))
	id := x.add(t, increment, "")
	_, e := Row(x.Store, id)
	ok(t, "Row", e)
	selects(t, "one whose verdicts are kept", x, id, "t")
}

// Promise 19.1: Select: graph.Select of a commit's program behind its parent's.
func TestSelect(t *testing.T) {
	change := func(old, by string) string { return strings.Replace(pair, old, by, 1) }
	x := fresh(t)
	first := x.add(t, pair, "")
	for _, c := range []struct {
		what, source string
		names        []string
	}{
		{"other words", "// a note\n" + change("a + v", "((a)+v)"), nil},
		{"another order", change("var v int = 1; ", "") + " var v int = 1;", nil},
		{"a function", change("a + v", "v + a"), []string{"t"}},
		{"another function", change("a * 2", "2 * a"), []string{"u"}},
		{"a global", change("v int = 1", "v int = 2"), []string{"t"}},
		{"a test", change("1 < 2", "2 > 1"), []string{"w"}},
		{"a test's name", change("test u", "test x"), []string{"x"}},
		{"two tests' names", change("test t { assert f(1) == 2; } test u", "test u { assert f(1) == 2; } test t"), []string{"u", "t"}},
		{"a new test", pair + " test x { }", []string{"x"}},
		{"a test less", change("test u { assert g(3) == 6; }", ""), nil},
		{"no test", change("test t", "func h() int { return 1; } test t")[:strings.Index(pair, "test")], nil},
		{"a function that no test calls", "func h(a int) int { return f(a); } " + pair, nil},
		{"a function between", change("return a * 2", "return h(a)") + " func h(a int) int { return a * 2; }", []string{"u"}},
		{"all of it", "var v int = 1; test w { } test u { } test t { }", []string{"w", "u", "t"}},
		{"nothing", "", nil},
	} {
		id := x.add(t, c.source, first)
		x.untouched(t, c.what, func() { selects(t, c.what, x, id, c.names...) })
	}
}

// Promise 19.1: Select goes by the commit's own parent, not by others, nor by those ahead of it.
func TestSelectBehindParents(t *testing.T) {
	const other = "func f(a int) int { return a + 2; } test t { assert f(1) == 3; } test u { }"
	x := fresh(t)
	ids := x.row(t, increment, other, increment, increment+" // again")
	selects(t, "the first", x, ids[0], "t")
	selects(t, "the second", x, ids[1], "t", "u")
	selects(t, "what the first was", x, ids[2], "t")
	selects(t, "other words", x, ids[3])
	selects(t, "the second's text without a parent", x, x.add(t, other, ""), "t", "u")
	selects(t, "the second's text behind itself", x, x.add(t, other, ids[1]))
	selects(t, "behind a program without tests", x, x.add(t, increment, x.add(t, "func f(a int) int { return a + 1; }", "")), "t")
	selects(t, "behind nothing", x, x.add(t, increment, x.add(t, "", "")), "t")
}

// Promise 19.1: Select: a parent whose source is no program: its error; the commit's own goes ahead of it. What the parent's parent is does not count.
func TestSelectBehindBroken(t *testing.T) {
	x := fresh(t)
	for source, want := range broken() {
		parent := x.add(t, source, "")
		id := x.add(t, increment, parent)
		x.untouched(t, source, func() { noSelect(t, "behind "+source, x.Store, id, want) })
		noSelect(t, "? behind "+source, x.Store, x.add(t, "?", parent), api.ErrLex)
		programIs(t, "behind "+source, x, id, increment)
		row, e := Row(x.Store, id)
		ok(t, "Row behind "+source, e)
		same(t, "Row behind "+source, row, api.Row{ID: id, Mutants: 2, Killed: 2})
		selects(t, "two behind "+source, x, x.add(t, increment+" test u { }", id), "u")
	}
}

// Rule R2: what is answered is the caller's own.
func TestSelectIsOwn(t *testing.T) {
	x := fresh(t)
	id := x.add(t, pair, "")
	names, e := Select(x.Store, id)
	ok(t, "Select", e)
	clear(names)
	selects(t, "behind a change of an answer", x, id, "t", "u", "w")
}
