package engine

import (
	"strings"
	"testing"

	"cupel/api"
	"cupel/ast"
	"cupel/kill"
	"cupel/mutate"
)

const mixed = "func f(a int) int { if a == 0 { return 7; } return a; } func g() bool { return true; } test t { assert f(1) == 1; } test w { assert f(1) == 2; } test u { assert g() && f(0) == 7; }"

// Promise 18.1: the cells in their order, by mutants, then tests, one a step: what is told at each step.
func TestSteps(t *testing.T) {
	w := begun(t, fresh(t).Store, parsed(t, mixed))
	for i, want := range []struct {
		how   string
		stats api.Stats
	}{
		{"r", api.Stats{Run: 1}}, {"-", api.Stats{Run: 1}}, {"r", api.Stats{Run: 2}}, // a != 0
		{"r", api.Stats{Run: 3}}, {"-", api.Stats{Run: 3}}, {"r", api.Stats{Run: 4}}, // a == 1
		{"p", api.Stats{Run: 4, Passed: 1}}, {"-", api.Stats{Run: 4, Passed: 1}}, {"r", api.Stats{Run: 5, Passed: 1}}, // 8
		{"p", api.Stats{Run: 5, Passed: 2}}, {"-", api.Stats{Run: 5, Passed: 2}}, {"r", api.Stats{Run: 6, Passed: 2}}, // 0
		{"p", api.Stats{Run: 6, Passed: 3}}, {"-", api.Stats{Run: 6, Passed: 3}}, {"r", api.Stats{Run: 7, Passed: 3}}, // false
	} {
		tellsNone(t, "before the last cell", w)
		same(t, "Done", w.Done(), false)
		same(t, "At", w.At(), i)
		same(t, "how a cell was found", step(t, w), want.how)
		same(t, "Stats", w.Stats(), want.stats)
		same(t, "Total", w.Total(), 15)
	}
	same(t, "At", w.At(), 15)
	same(t, "Done", w.Done(), true)
	tells(t, "all cells", w,
		"t=1 w=2 u=1",
		"f.4.0: 2 0 2", // a != 0
		"f.6.0: 2 0 2", // a == 1
		"f.9.0: 1 0 2", // 8
		"f.9.1: 1 0 2", // 0
		"g.3.0: 1 0 2") // false
}

// Promise 18.1: a matrix of the same program again: all is kept.
func TestStepsOfWhatIsKept(t *testing.T) {
	x := fresh(t)
	p := parsed(t, mixed)
	same(t, "the first time", trace(t, begun(t, x.Store, p)), "r-rr-rp-rp-rp-r")
	changes := x.disk.Changes()
	w := begun(t, x.Store, p)
	same(t, "the second time", trace(t, w), "k-kk-kp-kp-kp-k")
	same(t, "changes of the disk", x.disk.Changes(), changes)
	m, _ := w.Matrix()
	alike(t, "the second time", m, defined(t, p))
	q := parsed(t, strings.Replace(mixed, "return a; }", "return a + 0; }", 1))
	same(t, "with another function", trace(t, begun(t, x.Store, q)), "r-rr-rp-rp-rr-pr-pp-r")
	q = parsed(t, strings.Replace(mixed, "f(1) == 1", "f(2) == 2", 1))
	same(t, "with another test", trace(t, begun(t, x.Store, q)), "r-kr-kp-kp-kp-k")
	q = parsed(t, "test more { } "+strings.Replace(mixed, "f(1) == 2", "f(1) == 1", 1))
	same(t, "with more tests", trace(t, begun(t, x.Store, q)), "pkrkpkrkpppkpppkpppk")
}

// Promise 18.1: a verdict that is kept for a cell's key is the cell, whatever it is.
func TestKeptVerdicts(t *testing.T) {
	for _, verdict := range []int{0, 1, 2, 6, 7, 77, 255} {
		x := fresh(t)
		p := parsed(t, "func f(a int) int { return a + 1; } test t { assert f(1) == 2; } test u { assert f(2) == 3; }")
		x.keep(t, Key(mutant(t, p, "f", 6, 0), "t", api.Fuel), verdict)
		w := begun(t, x.Store, p)
		same(t, "one is kept", trace(t, w), "rrkr")
		m, _ := w.Matrix()
		want := defined(t, p)
		want.Cells[1][0] = verdict
		alike(t, "one is kept", m, want)
		same(t, "verdicts", len(x.Verdicts()), 4)
		n, is := x.Verdict(Key(mutant(t, p, "f", 6, 0), "t", api.Fuel))
		same(t, "the verdict stays", n, verdict)
		same(t, "whether it is there", is, true)
	}
}

// Promise 18.1: a verdict by another key is none: of the program itself, of another test, of other fuel.
func TestOtherVerdicts(t *testing.T) {
	x := fresh(t)
	p := parsed(t, "func f(a int) int { return a + 1; } test t { assert f(1) == 2; } test u { assert f(2) == 3; }")
	other := mutant(t, p, "f", 4, 0)
	for _, key := range []string{
		Key(p, "t", api.Fuel), Key(p, "u", api.Fuel), Key(p, "f", api.Fuel), Key(other, "f", api.Fuel), Key(other, "none", api.Fuel),
		Key(other, "t", api.Fuel-1), Key(other, "t", api.Fuel+1), Key(other, "t", 0), Key(other, "t", api.MaxFuel), "", "t", mutate.ID(p, api.Mutant{Func: "f", Node: 4}),
	} {
		x.keep(t, key, 77)
	}
	w := begun(t, x.Store, p)
	same(t, "other verdicts", trace(t, w), "rrrr")
	m, _ := w.Matrix()
	alike(t, "other verdicts", m, defined(t, p))
}

// Promise 18.1: 0, where the test does not pass on the program, and Pass, where it does not come to the node, go ahead of what is kept.
func TestCellsThatAskForNoVerdict(t *testing.T) {
	x := fresh(t)
	p := parsed(t, mixed)
	for _, m := range mutate.List(p) {
		for _, test := range []string{"t", "w", "u"} {
			x.keep(t, Key(mutant(t, p, m.Func, m.Node, m.Turn), test, api.Fuel), 99)
		}
	}
	w := begun(t, x.Store, p)
	same(t, "all are kept", trace(t, w), "k-kk-kp-kp-kp-k")
	tells(t, "all are kept", w, "t=1 w=2 u=1", "f.4.0: 99 0 99", "f.6.0: 99 0 99", "f.9.0: 1 0 99", "f.9.1: 1 0 99", "g.3.0: 1 0 99")
}

// Promise 18.1: no verdict is kept of a cell that was not run.
func TestWhatIsKept(t *testing.T) {
	x := fresh(t)
	p := parsed(t, mixed)
	trace(t, begun(t, x.Store, p))
	all := x.Verdicts()
	same(t, "verdicts", len(all), 7)
	for _, m := range mutate.List(p) {
		other := mutant(t, p, m.Func, m.Node, m.Turn)
		for _, test := range []string{"t", "w", "u"} {
			n, is := all[keyOf(other, test)]
			same(t, "whether one is kept", is, test == "u" || test == "t" && m.Func == "f" && m.Node < 9)
			if is {
				same(t, "the verdict", n, api.TrapAssert)
			}
		}
	}
}

// Promise 18.1: each trap in a cell, when it is run and when it is kept.
func TestTraps(t *testing.T) {
	x := fresh(t)
	for _, c := range []struct{ text, first, second, cells string }{
		{"func f(n int) int { i := 0; for i < n { i = i + 1; } return i; } test t { assert f(3) == 3; }", "rrrrrr", "kkkkkk", "1 2 2 6 6 2"},
		{"func f(n int) int { if n < 1 { return 0; } return f(n - 1); } test t { assert f(2) == 0; }", "rrrrrr", "kkkkkk", "1 1 1 2 5 1"},
		{"func f(a float) int { return int(1.5 * a) % 7; } test t { assert f(0.0) == 0; }", "rrrrr", "kkkkk", "1 4 1 1 3"},
	} {
		p := parsed(t, c.text)
		for _, want := range []string{c.first, c.second} {
			w := begun(t, x.Store, p)
			same(t, "how cells are found", trace(t, w), want)
			m, _ := w.Matrix()
			alike(t, "traps", m, defined(t, p))
			line := strings.ReplaceAll(told(api.Matrix{Mutants: m.Mutants[:1], Cells: [][]int{column(m)}}), "\nf.4.0: ", "")
			same(t, "the cells", line, c.cells)
		}
	}
}

// Promise 18.1: mutants are run with Fuel steps: one that takes just these passes, one that takes a step more does not.
func TestFuel(t *testing.T) {
	const text = "func count() int { i := 247; for i > 0 { i = i - 1; } return i; } test most { assert !!(count() == 0); } test more { assert !!!(count() != 0); }"
	p := parsed(t, text)
	other := mutant(t, p, "count", 3, 0) // 248, which takes 8 steps more
	same(t, "most with a step less", kill.Outcome(other, "most", 1999), api.TrapFuel)
	same(t, "more with a step more", kill.Outcome(other, "more", 2001), api.Pass)
	x := fresh(t)
	for _, how := range []string{"r", "k"} {
		w := begun(t, x.Store, p)
		same(t, "how cells are found", trace(t, w), strings.Repeat(how, 16))
		m, _ := w.Matrix()
		same(t, "the base", m.Base[0]+m.Base[1], 2*api.Pass)
		same(t, "248", told(api.Matrix{Mutants: m.Mutants[:1], Cells: m.Cells[:1]}), "\ncount.3.0: 1 6")
		alike(t, "with just enough", m, defined(t, p))
	}
}

// column is the cells of the first test.
func column(m api.Matrix) []int {
	var list []int
	for _, row := range m.Cells {
		list = append(list, row[0])
	}
	return list
}

// Promise 18.1: a step behind the last cell does nothing, without power, too.
func TestStepsBehindTheLastCell(t *testing.T) {
	x := fresh(t)
	p := parsed(t, mixed)
	w := begun(t, x.Store, p)
	trace(t, w)
	changes, stats := x.disk.Changes(), w.Stats()
	for i := range 6 {
		if i == 3 {
			x.disk.Crash(0, 0)
		}
		same(t, "a step behind the last cell", w.Step(), api.OK)
		same(t, "At", w.At(), 15)
		same(t, "Done", w.Done(), true)
		same(t, "Stats", w.Stats(), stats)
		m, all := w.Matrix()
		same(t, "whether all was found", all, true)
		alike(t, "the matrix", m, defined(t, p))
	}
	same(t, "changes of the disk", x.disk.Changes(), changes)
}

// Rule R2: what is told of a matrix is the caller's own, and so is each of its lists.
func TestMatrixIsTheCallersOwn(t *testing.T) {
	x := fresh(t)
	p := parsed(t, "func f(a int) int { return a + 1 + 2; } test t { assert f(1) == 4; } test u { assert f(2) == 5; } test w { }")
	w := begun(t, x.Store, p)
	trace(t, w)
	m, _ := w.Matrix()
	want := told(m)
	for i := range m.Cells {
		row := m.Cells[i][:cap(m.Cells[i])] // what lies behind a list is not another one's, either
		for k := range row {
			row[k] = -1
		}
		for k := range m.Cells {
			if k > i && m.Cells[k][0] == -1 {
				t.Errorf("row %d is in row %d, too", i, k)
			}
		}
	}
	m.Tests[0], m.Base[0], m.Mutants[0] = "spoilt", -1, api.Mutant{}
	other, _ := w.Matrix()
	same(t, "what is told again", told(other), want)
	alike(t, "what is told again", other, defined(t, p))
}

// Rule R4: two matrices at once on one store each have their own cells; what one has kept the other one finds.
func TestTwoAtOnce(t *testing.T) {
	x := fresh(t)
	p := parsed(t, sumOf(20))
	a, b := begun(t, x.Store, p), begun(t, x.Store, p)
	line := ""
	for range 20 {
		line += step(t, a) + step(t, b)
	}
	// b's sixteenth cell is kept when it comes to it, as a's first 16 were just then; its own 15 wait, with the next one they are kept.
	same(t, "in turn", line, strings.Repeat("rr", 15)+"rk"+strings.Repeat("rr", 3)+"rk")
	for _, w := range []*Work{a, b} {
		m, _ := w.Matrix()
		alike(t, "in turn", m, defined(t, p))
		same(t, "Done", w.Done(), true)
	}
	same(t, "verdicts", len(x.Verdicts()), 20)
}

// The chapter's example: of the same program twice the second time nothing is run.
func TestExample(t *testing.T) {
	x := fresh(t)
	p := parsed(t, "func f(a int) int { return a + 1; } test t { assert f(1) == 2; }")
	for i, want := range []api.Stats{{Run: 2}, {Kept: 2}, {Kept: 2}} {
		m, stats, e := Whole(x.Store, p)
		ok(t, "Whole", e)
		same(t, "Stats", stats, want)
		same(t, "the matrix", told(m), "t=1\nf.4.0: 2\nf.6.0: 2")
		same(t, "verdicts", len(x.Verdicts()), 2)
		if i == 1 {
			p = checked(t, ast.Print(p))
		}
	}
}
