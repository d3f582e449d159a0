package engine

import (
	"strings"
	"testing"

	"cupel/api"
	"cupel/ast"
)

// finds holds how a text's cells are found with a shelf, and its matrix against the definition.
func finds(t *testing.T, x shelf, text, how string, lines ...string) {
	t.Helper()
	p := parsed(t, text)
	w := begun(t, x.Store, p)
	same(t, text+": how cells are found", trace(t, w), how)
	m, _ := w.Matrix()
	alike(t, text, m, defined(t, p))
	same(t, text, told(m), strings.Join(lines, "\n"))
}

// Promise 18.2: a mutant that is one of other programs, too, is found by their verdicts; a program whose own text was a mutant's is not.
func TestMutantsOfOthers(t *testing.T) {
	const tail = " } test t { assert f(0) < 3; }"
	x := fresh(t)
	finds(t, x, "func f(a int) int { return a + 1;"+tail, "rr", "t=1", "f.4.0: 1", "f.6.0: 1")              // a - 1, a + 2
	finds(t, x, "func f(a int) int { return a - 1;"+tail, "rr", "t=1", "f.4.0: 1", "f.6.0: 1")              // a + 1, a - 2
	finds(t, x, "func f(a int) int { return a + 2;"+tail, "krr", "t=1", "f.4.0: 1", "f.6.0: 2", "f.6.1: 1") // a - 2, a + 3, a + 0
	finds(t, x, "func f(a int) int { return a - 2;"+tail, "krr", "t=1", "f.4.0: 1", "f.6.0: 1", "f.6.1: 1") // a + 2, a - 3, a - 0
	finds(t, x, "func f(a int) int { return a + 0;"+tail, "kk", "t=1", "f.4.0: 1", "f.6.0: 1")              // a - 0, a + 1
	finds(t, x, "func f(a int) int { return a + 3;"+tail, "---", "t=2", "f.4.0: 0", "f.6.0: 0", "f.6.1: 0")
	same(t, "verdicts", len(x.Verdicts()), 8)
}

// Promise 18.2: verdicts of a test stay where only declarations are changed that it does not come to; where one of its own is, or a global, or it alone, they are found anew.
func TestChangesOfOthers(t *testing.T) {
	const text = "var v int = 1; var w int = 2; func f(a int) int { return a + v; } func g(a int) int { return a * w; } test t { assert f(1) == 2; } test u { assert g(3) == 6; }"
	lines := []string{"t=1 u=1", "f.4.0: 2 1", "g.4.0: 1 2"}
	x := fresh(t)
	finds(t, x, text, "rppr", lines...)
	finds(t, x, text, "kppk", lines...)
	change := func(old, by string) string { return strings.Replace(text, old, by, 1) }
	finds(t, x, change("a * w", "w * a"), "kppr", lines...)
	finds(t, x, change("g(3) == 6", "6 == g(3)"), "kppr", lines...)
	finds(t, x, change("a + v", "v + a"), "rppk", lines...)
	finds(t, x, change("v int = 1", "v int = 2"), "-p-k", "t=2 u=1", "f.4.0: 0 1", "g.4.0: 0 2")
	finds(t, x, change("w int = 2", "w int = 3"), "k-p-", "t=1 u=2", "f.4.0: 2 0", "g.4.0: 1 0")
	finds(t, x, change("test t", "test s"), "rppk", "s=1 u=1", "f.4.0: 2 1", "g.4.0: 1 2")
	finds(t, x, change("var v int = 1;", "")+" var v int = 1; var z int = 9;", "kppk", lines...)
	finds(t, x, text+" test z { }", "kpppkp", "t=1 u=1 z=1", "f.4.0: 2 1 1", "g.4.0: 1 2 1")
	finds(t, x, change("func f", "func h(a int) int { return f(a); } func f"), "kppk", lines...)
	finds(t, x, text, "kppk", lines...)
}

// Promise 18.2: a test of the same name and text that ends otherwise, as what it calls is otherwise, is another one.
func TestSameTestsOfOthers(t *testing.T) {
	x := fresh(t)
	for i, body := range []string{"a + 1", "a + 2", "a + 3"} {
		p := parsed(t, "func g(a int) int { return "+body+"; } func f(a int) int { return g(a) * 1; } test t { assert f(1) < 4; }")
		_, stats, e := Whole(x.Store, p)
		ok(t, "Whole", e)
		m, again, e := Whole(x.Store, p)
		ok(t, "Whole", e)
		alike(t, ast.Print(p), m, defined(t, p))
		same(t, "what was run is kept", again, api.Stats{Kept: stats.Run + stats.Kept, Passed: stats.Passed})
		same(t, "whether it passes", m.Base[0] == api.Pass, i < 2)
	}
}
