package engine

import (
	"maps"
	"strings"
	"testing"

	"cupel/api"
	"cupel/ast"
	"cupel/mutate"
)

// verdictsOf is how many verdicts are kept behind each step, as it changes.
func verdictsOf(t *testing.T, x shelf, w *Work) map[int]int {
	t.Helper()
	kept := map[int]int{}
	last := len(x.Verdicts())
	for range w.Total() {
		changes := x.disk.Changes()
		ok(t, "Step", w.Step())
		n := len(x.Verdicts())
		if n != last {
			kept[w.At()] = n
		}
		same(t, "whether something was laid", x.disk.Changes() != changes, n != last)
		same(t, "loose changes", x.disk.Loose(), 0)
		last = n
	}
	same(t, "Done", w.Done(), true)
	return kept
}

// Promise 18.1: verdicts are kept at the sixteenth that waits, and behind the last cell.
func TestKept(t *testing.T) {
	for n, want := range map[int]map[int]int{
		1:  {1: 1},
		2:  {2: 2},
		15: {15: 15},
		16: {16: 16},
		17: {16: 16, 17: 17},
		31: {16: 16, 31: 31},
		32: {16: 16, 32: 32},
		33: {16: 16, 32: 32, 33: 33},
		70: {16: 16, 32: 32, 48: 48, 64: 64, 70: 70},
	} {
		keptAt(t, parsed(t, sumOf(n)), strings.Repeat("r", n), want)
	}
}

// Promise 18.1: cells that are not run add nothing to what waits; the last cell may be one of them.
func TestKeptBetweenOtherCells(t *testing.T) {
	x := fresh(t)
	text := sumOf(20) + " test w { assert f() == 0; } test e { } func last() int { return 5; }"
	w := begun(t, x.Store, parsed(t, text))
	same(t, "Total", w.Total(), 66)
	got := verdictsOf(t, x, w)
	same(t, "how often some are kept", len(got), 2)
	same(t, "the sixteenth", got[15*3+1], 16)
	same(t, "behind the last cell", got[66], 20)
	same(t, "Stats", w.Stats(), api.Stats{Run: 20, Passed: 24})

	x.keep(t, Key(mutant(t, parsed(t, sumOf(17)), "f", 11, 0), "t", api.Fuel), 2)
	w = begun(t, x.Store, parsed(t, sumOf(17)))
	got = verdictsOf(t, x, w)
	same(t, "with one that is kept", w.Stats(), api.Stats{Run: 16, Kept: 1})
	same(t, "how often some are kept then", len(got), 1)
	same(t, "behind the last cell", got[17], 20+17)
}

// twice is a program of which two mutants are the same program, and to all of whose mutants, n ahead of these, its test comes.
func twice(n int) string {
	if n == 0 {
		return "func g(a int) int { return --a; } test t { assert g(3) == 3; }"
	}
	return strings.Replace(sumOf(n), "test t { assert", "func g(a int) int { return --a; } test t { assert g(3) == 3; assert", 1)
}

// Promise 18.1: a key that is met twice while its verdict waits is run twice, and waits once.
func TestOneKeyTwice(t *testing.T) {
	x := fresh(t)
	p := parsed(t, twice(0))
	same(t, "two mutants are one program", ast.Print(mutant(t, p, "g", 4, 0)), ast.Print(mutant(t, p, "g", 5, 0)))
	w := begun(t, x.Store, p)
	same(t, "how cells are found", trace(t, w), "rr")
	tells(t, "one key twice", w, "t=1", "g.4.0: 2", "g.5.0: 2")
	same(t, "verdicts", len(x.Verdicts()), 1)
	same(t, "changes of the disk", x.disk.Changes(), 1)
	same(t, "how cells are found again", trace(t, begun(t, x.Store, p)), "kk")
	three := parsed(t, "func g(a bool) bool { return !!!a; } test t { assert g(false); }")
	same(t, "three are one", trace(t, begun(t, x.Store, three)), "rrr")
	same(t, "verdicts", len(x.Verdicts()), 2)
}

// Promise 18.1: of one key twice one verdict counts among the sixteen.
func TestOneKeyTwiceAmongMany(t *testing.T) {
	for n, want := range map[int]struct {
		how  string
		kept map[int]int
	}{
		1:  {strings.Repeat("r", 3), map[int]int{3: 2}},                    // the second verdict is met twice
		13: {strings.Repeat("r", 15), map[int]int{15: 14}},                 // the fourteenth,
		14: {strings.Repeat("r", 16), map[int]int{16: 15}},                 // the fifteenth
		15: {strings.Repeat("r", 16) + "k", map[int]int{16: 16}},           // the sixteenth one is kept when it is met again
		16: {strings.Repeat("r", 18), map[int]int{16: 16, 18: 17}},         // the first one behind those
		30: {strings.Repeat("r", 32), map[int]int{16: 16, 32: 31}},         // again the fifteenth,
		31: {strings.Repeat("r", 32) + "k", map[int]int{16: 16, 32: 32}},   // the sixteenth,
		32: {strings.Repeat("r", 34), map[int]int{16: 16, 32: 32, 34: 33}}, // the first one behind those
		47: {strings.Repeat("r", 48) + "k", map[int]int{16: 16, 32: 32, 48: 48}},
	} {
		keptAt(t, parsed(t, twice(n)), want.how, want.kept)
	}
	ahead := "func g(a int) int { return --a; } func h(a int) int { return ---a; } " + strings.Replace(sumOf(40), "assert", "assert g(3) == 3 && h(3) == -3; assert", 1)
	keptAt(t, parsed(t, ahead), strings.Repeat("r", 45), map[int]int{16 + 3: 16, 32 + 3: 32, 45: 42}) // three cells add nothing to what waits
}

// keptAt holds how the cells of a program are found, and how many verdicts are kept behind which step, against what must be.
func keptAt(t *testing.T, p api.Node, how string, kept map[int]int) {
	t.Helper()
	same(t, "how cells are found", trace(t, begun(t, fresh(t).Store, p)), how)
	x := fresh(t)
	got := verdictsOf(t, x, begun(t, x.Store, p))
	same(t, "how often some are kept", len(got), len(kept))
	for at, verdicts := range kept {
		same(t, "verdicts", got[at], verdicts)
	}
}

// Promise 18.1: no room when verdicts are to be kept: cas.Keep's error; cells are found all the same, what waits goes on waiting.
func TestNoRoom(t *testing.T) {
	for _, n := range []int{1, 15, 16, 17, 40, 100} {
		x := fresh(t)
		p := parsed(t, sumOf(n))
		want := defined(t, p)
		w := begun(t, x.Store, p)
		x.fill()
		for i := 1; i <= n; i++ {
			e := api.OK
			if i >= 16 || i == n {
				e = api.ErrFull
			}
			tellsNone(t, "before the last cell", w)
			same(t, "Step", w.Step(), e)
			same(t, "At", w.At(), i)
			same(t, "Done", w.Done(), false)
			same(t, "Stats", w.Stats(), api.Stats{Run: i})
		}
		for range 3 {
			same(t, "a step behind the last cell", w.Step(), api.ErrFull)
			same(t, "At", w.At(), n)
			same(t, "Done", w.Done(), false)
			m, all := w.Matrix()
			same(t, "whether all was found", all, true)
			alike(t, "without room", m, want)
		}
		same(t, "verdicts", len(x.Verdicts()), 0)
		same(t, "changes of the disk", x.disk.Changes(), 0)
		x.free()
		same(t, "with room again", w.Step(), api.OK)
		same(t, "Done", w.Done(), true)
		same(t, "Stats", w.Stats(), api.Stats{Run: n})
		same(t, "verdicts", len(x.Verdicts()), n)
		m, _ := w.Matrix()
		alike(t, "with room again", m, want)
		keptOf(t, x, p)
	}
}

// keptOf tells that all verdicts of a program's matrix that may be asked for are kept, and are the definition's: the next time nothing is run.
func keptOf(t *testing.T, x shelf, p api.Node) {
	t.Helper()
	m, stats, e := Whole(x.Store, p)
	ok(t, "Whole", e)
	same(t, "cells that are run again", stats.Run, 0)
	alike(t, "of what is kept", m, defined(t, p))
}

// Promise 18.1: room that comes again at any step: all that waits is kept then, and all goes on.
func TestRoomComesAgain(t *testing.T) {
	const n = 40
	p := parsed(t, sumOf(n))
	for from := range n {
		for _, until := range []int{from + 1, 16, 17, 20, 33, n} {
			if until <= from {
				continue
			}
			x := fresh(t)
			m := follow(t, x, p, func(i int) bool { return i < from || i >= until })
			same(t, "verdicts", len(x.Verdicts()), n)
			same(t, "Stats", m.stats, api.Stats{Run: n})
		}
	}
}

// Promise 18.1: with no room for long, more verdicts may wait than a store takes at once; behind that all are kept, each by its own key.
func TestRoomComesAgainLate(t *testing.T) {
	const n = 3 * 67
	p := parsed(t, sumOf(67)+" test u { assert f() < 1000; } test v { assert f() > 1 - 1000; }") // 2 1 1 2 1 1 ..
	want, truth := defined(t, p), map[string]int{}
	learn(t, p, want, truth)
	for _, at := range []int{63, 64, 65, 80, 128, 129, n - 2, n - 1, n, n + 100} {
		x := fresh(t)
		w := begun(t, x.Store, p)
		x.fill()
		for i := range at {
			e := api.ErrFull
			if i < 15 {
				e = api.OK
			}
			same(t, "Step", w.Step(), e)
		}
		x.free()
		ok(t, "Step with room again", w.Step())
		same(t, "At", w.At(), min(at+1, n))
		same(t, "what waited is kept", len(x.Verdicts()), min(at+1, n))
		for i := at + 1; i < n; i++ {
			same(t, "Done", w.Done(), false)
			ok(t, "Step with room again", w.Step())
		}
		same(t, "Done", w.Done(), true)
		same(t, "Stats", w.Stats(), api.Stats{Run: n})
		m, _ := w.Matrix()
		alike(t, "with room again", m, want)
		same(t, "verdicts by the definition", maps.Equal(x.Verdicts(), truth), true)
		same(t, "Stats", wholly(t, "the next time", x, p, want, truth), api.Stats{Kept: n})
	}
}

// Promise 18.1: the power fails: cas.Keep's error; cells are found all the same.
func TestNoPower(t *testing.T) {
	for _, n := range []int{1, 16, 100} {
		for _, first := range []int{0, 1, 15, 16, 20} {
			x := fresh(t)
			p := parsed(t, sumOf(n))
			w := begun(t, x.Store, p)
			for range min(first, n) {
				ok(t, "Step", w.Step())
			}
			done, kept := w.Done(), len(x.Verdicts())
			x.disk.Crash(0, 0)
			for i := min(first, n) + 1; i <= n+3; i++ {
				e := api.OK
				if min(i, n)-kept >= 16 || i >= n && !done {
					e = api.ErrDead
				}
				same(t, "Step", w.Step(), e)
				same(t, "At", w.At(), min(i, n))
				same(t, "Done", w.Done(), done)
			}
			m, all := w.Matrix()
			same(t, "whether all was found", all, true)
			alike(t, "without power", m, defined(t, p))
			x = x.again(t)
			same(t, "verdicts", len(x.Verdicts()), kept)
			m, stats, e := Whole(x.Store, p)
			ok(t, "Whole", e)
			same(t, "Stats", stats, api.Stats{Run: n - kept, Kept: kept})
			alike(t, "with power again", m, defined(t, p))
		}
	}
}

// Promise 18.1: Whole ends with cas.Keep's error, and nothing beside it.
func TestWholeThatFails(t *testing.T) {
	for _, n := range []int{1, 16, 17, 100} {
		x := fresh(t)
		p := parsed(t, sumOf(n))
		x.fill()
		for range 2 {
			wholeFails(t, "without room", x.Store, p, api.ErrFull)
		}
		same(t, "verdicts", len(x.Verdicts()), 0)
		x.free()
		x.disk.Crash(0, 0)
		for range 2 {
			wholeFails(t, "without power", x.Store, p, api.ErrDead)
		}
		x = x.again(t)
		same(t, "verdicts", len(x.Verdicts()), 0)
		_, stats, e := Whole(x.Store, p)
		ok(t, "Whole", e)
		same(t, "Stats", stats, api.Stats{Run: n})
		keptOf(t, x, p)
	}
}

// Promise 18.1: where nothing waits to be kept, there is nothing that may fail: without room, and without power.
func TestNothingToKeep(t *testing.T) {
	x := fresh(t)
	p := parsed(t, sumOf(40))
	_, _, e := Whole(x.Store, p)
	ok(t, "Whole", e)
	passed := parsed(t, "func f(a int) int { return a + 1; } test t { } test u { assert f(1) == 1; }")
	for range 2 {
		x.fill()
		for _, q := range []api.Node{p, passed, parsed(t, "test t { }")} {
			keptOf(t, x, q)
		}
		x.disk.Crash(0, 0)
	}
	same(t, "mutants", len(mutate.List(p)), 40)
}
