package engine

import (
	"maps"
	"slices"
	"testing"

	"cupel/api"
	"cupel/ast"
	"cupel/graph"
	"cupel/interp"
	"cupel/kill"
	"cupel/mutate"
)

// model is a matrix that is found by the chapter's words, put a second time; mutants are run by their texts.
type model struct {
	program  api.Node
	tests    []string
	mutants  []api.Mutant
	runs     []api.Result   // of the tests on the program
	kept     map[string]int // that the store has
	waits    []string       // keys of verdicts that wait,
	verdicts map[string]int // and these
	cells    []int
	stats    api.Stats
}

func modelOf(t *testing.T, x shelf, p api.Node) *model {
	t.Helper()
	m := &model{program: p, mutants: mutate.List(p), kept: x.Verdicts(), verdicts: map[string]int{}}
	for _, d := range p.Kids {
		if d.Kind == api.NodeTest {
			m.tests = append(m.tests, d.S)
			r, e := interp.Run(p, d.S, 2000)
			ok(t, "a run", e)
			m.runs = append(m.runs, r)
		}
	}
	return m
}

func (m *model) total() int { return len(m.mutants) * len(m.tests) }

func (m *model) done() bool { return len(m.cells) == m.total() && len(m.waits) == 0 }

// keyOf is a verdict's key, by the library's digest.
func keyOf(p api.Node, test string) string {
	return digest('K', graph.Hash(p, test), test, "\xd0\x07\x00\x00")
}

// next is the next cell.
func (m *model) next(t *testing.T) int {
	t.Helper()
	x, i := m.mutants[len(m.cells)/len(m.tests)], len(m.cells)%len(m.tests)
	if m.runs[i].Outcome != 1 {
		return 0
	}
	if !slices.Contains(m.runs[i].Cover, api.Site{Name: x.Func, Node: x.Node}) {
		m.stats.Passed++
		return 1
	}
	other := mutant(t, m.program, x.Func, x.Node, x.Turn)
	key := keyOf(other, m.tests[i])
	if n, is := m.kept[key]; is {
		m.stats.Kept++
		return n
	}
	m.stats.Run++
	n := kill.Outcome(checked(t, ast.Print(other)), m.tests[i], 2000)
	if _, is := m.verdicts[key]; !is {
		m.waits, m.verdicts[key] = append(m.waits, key), n
	}
	return n
}

// step takes a step, with room on the disk or without: what must be answered, and whether verdicts are kept.
func (m *model) step(t *testing.T, room bool) (api.Errno, bool) {
	t.Helper()
	if len(m.cells) < m.total() {
		m.cells = append(m.cells, m.next(t))
	}
	if len(m.waits) == 0 || len(m.waits) < 16 && len(m.cells) < m.total() {
		return api.OK, false
	}
	if !room {
		return api.ErrFull, false
	}
	maps.Copy(m.kept, m.verdicts)
	m.waits, m.verdicts = nil, map[string]int{}
	return api.OK, true
}

// matrix is what was found.
func (m *model) matrix() api.Matrix {
	all := api.Matrix{Tests: m.tests, Mutants: m.mutants}
	for _, r := range m.runs {
		all.Base = append(all.Base, r.Outcome)
	}
	for i := range m.mutants {
		all.Cells = append(all.Cells, m.cells[i*len(m.tests):(i+1)*len(m.tests)])
	}
	return all
}

// holds holds what is told of a matrix against the model.
func (m *model) holds(t *testing.T, w *Work) {
	t.Helper()
	same(t, "Total", w.Total(), m.total())
	same(t, "At", w.At(), len(m.cells))
	same(t, "Done", w.Done(), m.done())
	same(t, "Stats", w.Stats(), m.stats)
	if len(m.cells) < m.total() {
		tellsNone(t, "before the last cell", w)
		return
	}
	got, all := w.Matrix()
	same(t, "whether all was found", all, true)
	alike(t, "the matrix", got, m.matrix())
}

// has tells that a shelf has just the verdicts that the model has.
func (m *model) has(t *testing.T, x shelf) {
	t.Helper()
	if got := x.Verdicts(); !maps.Equal(got, m.kept) {
		t.Errorf("%d verdicts are kept, not %d", len(got), len(m.kept))
	}
}

// follow finds a program's matrix step by step, and holds all that is told behind each step against the model; room tells of each step whether there is room.
func follow(t *testing.T, x shelf, p api.Node, room func(step int) bool) *model {
	t.Helper()
	m, w := modelOf(t, x, p), begun(t, x.Store, p)
	m.holds(t, w)
	for i := 0; !m.done(); i++ {
		x.free()
		roomy := room(i)
		if !roomy {
			x.fill()
		}
		changes := x.disk.Changes()
		e, kept := m.step(t, roomy)
		same(t, "Step", w.Step(), e)
		same(t, "whether something was laid", x.disk.Changes() > changes, kept)
		m.holds(t, w)
		if kept || e != api.OK {
			m.has(t, x)
		}
		if t.Failed() {
			t.Fatalf("step %d of %s", i, short(ast.Print(p)))
		}
	}
	x.free()
	behind(t, x, m, w)
	return m
}

// behind takes steps behind the last cell: they do nothing.
func behind(t *testing.T, x shelf, m *model, w *Work) {
	t.Helper()
	changes := x.disk.Changes()
	for range 3 {
		same(t, "a step behind the last cell", w.Step(), api.OK)
		m.holds(t, w)
	}
	same(t, "changes of the disk", x.disk.Changes(), changes)
	m.has(t, x)
}

func roomy(int) bool { return true }

func shutUp(int) bool { return false }
