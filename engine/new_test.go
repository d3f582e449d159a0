package engine

import (
	"testing"

	"cupel/api"
	"cupel/ast"
	"cupel/cas"
	"cupel/kill"
)

// rejected is a program that may not be, and why.
type rejected struct {
	p   api.Node
	why api.Errno
}

func rejectedOnes(t *testing.T) map[string]rejected {
	return map[string]rejected{
		"two of one name":        {parsed(t, "test t { } test t { }"), api.ErrTwice},
		"a name that is unknown": {parsed(t, "func f(a int) int { return a + 1; } test t { assert x; }"), api.ErrKnown},
		"another test":           {parsed(t, "test t { } test u { f(); }"), api.ErrKnown},
		"a type":                 {parsed(t, "func f() int { return 1.0; } test t { }"), api.ErrType},
		"arguments":              {parsed(t, "func f(a int) int { return a + 1; } test t { f(); }"), api.ErrCount},
		"a return":               {parsed(t, "test t { return 1; }"), api.ErrReturn},
		"no return":              {parsed(t, "func f() int { } test t { }"), api.ErrReturn},
		"nothing":                {api.Node{}, api.ErrTree},
		"no program":             {named(api.NodeTest, "t", block()), api.ErrTree},
		"no block":               {program(named(api.NodeTest, "t")), api.ErrTree},
		"something else":         {program(named(api.NodeTest, "t", block()), block()), api.ErrTree},
	}
}

// refuses tells that no matrix is begun, nor found, with nothing beside the error.
func refuses(t *testing.T, what string, c *cas.Store, p api.Node, want api.Errno) {
	t.Helper()
	was := ast.Clone(p)
	for range 2 {
		w, e := New(c, p)
		same(t, what+": New's error", e, want)
		same(t, what+": New's work beside it", w, nil)
		wholeFails(t, what, c, p, want)
	}
	if !ast.Same(p, was) {
		t.Errorf("%s: what was handed in does not stay", what)
	}
}

// wholeFails tells that Whole answers an error, and nothing beside it.
func wholeFails(t *testing.T, what string, c *cas.Store, p api.Node, want api.Errno) {
	t.Helper()
	m, stats, e := Whole(c, p)
	same(t, what+": Whole's error", e, want)
	same(t, what+": Whole's stats beside it", stats, api.Stats{})
	if m.Tests != nil || m.Base != nil || m.Mutants != nil || m.Cells != nil {
		t.Errorf("%s: %v beside an error", what, m)
	}
}

// Promise 18.1: no store: ErrArg, of a program that may not be, too.
func TestNoStore(t *testing.T) {
	for _, text := range []string{"", "test t { }", sumOf(3)} {
		refuses(t, "no store", nil, parsed(t, text), api.ErrArg)
	}
	for what, r := range rejectedOnes(t) {
		refuses(t, "no store, and "+what, nil, r.p, api.ErrArg)
	}
}

// Promise 18.1: a program that may not be: check's error, and nothing is laid.
func TestRejectedPrograms(t *testing.T) {
	x := fresh(t)
	for what, r := range rejectedOnes(t) {
		refuses(t, what, x.Store, r.p, r.why)
	}
	same(t, "changes of the disk", x.disk.Changes(), 0)
	x.disk.Crash(0, 0)
	for what, r := range rejectedOnes(t) {
		refuses(t, what+", without power", x.Store, r.p, r.why)
	}
}

// Promise 18.1: a matrix that is begun: no cell was found, nothing was laid.
func TestNew(t *testing.T) {
	x := fresh(t)
	w := begun(t, x.Store, parsed(t, "func f(a int) int { return a + 1; } func g() bool { return true; } test t { assert f(1) == 2; } test u { assert g(); } test v { assert !g(); }"))
	same(t, "Total", w.Total(), 9)
	same(t, "At", w.At(), 0)
	same(t, "Done", w.Done(), false)
	same(t, "Stats", w.Stats(), api.Stats{})
	tellsNone(t, "a matrix that is begun", w)
	same(t, "changes of the disk", x.disk.Changes(), 0)
	same(t, "verdicts", len(x.Verdicts()), 0)
}

// Promise 18.1: a program without tests, without functions, without mutants has no cells: it is done when it is begun, and a step does nothing.
func TestProgramsWithoutCells(t *testing.T) {
	x := fresh(t)
	for _, c := range []struct {
		text  string
		lines []string
	}{
		{"", []string{""}},
		{"var v int = 7; var w bool = true;", []string{""}},
		{"var v int = 5; func f(a int) int { return a + 1; }", []string{"", "f.4.0:", "f.6.0:"}},
		{"var v int = 5; test t { assert v + 1 == 6; } test u { assert v < 5; } test w { for true { } }", []string{"t=1 u=2 w=6"}},
		{"func f(a int) int { return a; } test t { assert f(1) == 1; }", []string{"t=1"}},
		{"test t { }", []string{"t=1"}},
	} {
		p := parsed(t, c.text)
		w := begun(t, x.Store, p)
		for range 3 {
			same(t, c.text+": Total", w.Total(), 0)
			same(t, c.text+": At", w.At(), 0)
			same(t, c.text+": Done", w.Done(), true)
			same(t, c.text+": Stats", w.Stats(), api.Stats{})
			tells(t, c.text, w, c.lines...)
			same(t, c.text+": Step", w.Step(), api.OK)
		}
		m, stats, e := Whole(x.Store, p)
		same(t, c.text+": Whole's error", e, api.OK)
		same(t, c.text+": Whole's stats", stats, api.Stats{})
		alike(t, c.text, m, defined(t, p))
	}
	same(t, "changes of the disk", x.disk.Changes(), 0)
}

// Promise 18.1: the tests were run on the program, with Fuel steps: each way in which one can end is in the base.
func TestBase(t *testing.T) {
	p := parsed(t, `
		var v int = 0;
		func d(n int) int { return d(n); }
		func count(n int) int { i := n; for i > 0 { i = i - 1; } return i; }
		test right { assert v == 0; }
		test wrong { assert v == 1; }
		test nought { assert 1 / v == 1; }
		test number { assert int(1.0 / 0.0) == 1; }
		test deep { assert d(1) == 0; }
		test long { for v == 0 { } }
		test most { assert !(count(248) != 0); }
		test more { assert !!(count(248) == 0); }`)
	w := begun(t, fresh(t).Store, p)
	same(t, "most with a step less", kill.Outcome(p, "most", 1999), api.TrapFuel) // 16 about the loop, and 8 for each time
	same(t, "more with a step more", kill.Outcome(p, "more", 2001), api.Pass)
	for !w.Done() {
		ok(t, "Step", w.Step())
	}
	m, _ := w.Matrix()
	want := []int{1, 2, 3, 4, 5, 6, 1, 6}
	for i, name := range m.Tests {
		same(t, name, m.Base[i], want[i])
	}
	alike(t, "with traps", m, defined(t, p))
}

// Promise 18.1: what is begun is of the program as it was when it was handed in.
func TestNewKeepsItsOwnProgram(t *testing.T) {
	x := fresh(t)
	p := parsed(t, "func f(a int) int { return a + 1; } test t { assert f(1) == 2; } test u { assert f(2) == 3; }")
	want := defined(t, p)
	w := begun(t, x.Store, p)
	p.Kids[0].Kids[1].Kids[0].Kids[0].S = "*"
	ok(t, "Step", w.Step())
	p.Kids[1].Kids[0].Kids = nil
	p.Kids[0], p.Kids[2] = api.Node{}, api.Node{}
	for !w.Done() {
		ok(t, "Step", w.Step())
	}
	m, _ := w.Matrix()
	alike(t, "of a program that was changed later", m, want)
}
