package engine

import (
	"maps"
	"math"
	"math/rand"
	"strconv"
	"testing"

	"cupel/api"
	"cupel/ast"
	"cupel/check"
	"cupel/kill"
	"cupel/mutate"
)

// sharpened is a chance program with some tests more, which hold what functions answer against just that, so that mutants of these are killed. It has at most so many mutants.
func sharpened(rnd *rand.Rand, most int) api.Node {
	for {
		m := maker{rnd: rnd}
		p := m.program()
		if n := len(mutate.List(p)); n == 0 || n > most {
			continue
		}
		m.known, m.read, m.called = nil, nil, m.functions
		for i := range 3 {
			call := m.call(m.functions[rnd.Intn(len(m.functions))], 1)
			f, _ := ast.Find(p, call.S)
			if claim, is := claimOf(p, f.T, call); is {
				p.Kids = append(p.Kids, named(api.NodeTest, "sharp"+strconv.Itoa(i), block(tree(api.NodeAssert, claim))))
			}
		}
		return p
	}
}

// claimOf is an assertion that tells a call's value; none, if it has none.
func claimOf(p api.Node, t int, call api.Node) (api.Node, bool) {
	var list []api.Node
	switch t {
	case api.TypeBool:
		list = []api.Node{call, named(api.NodeUnary, "!", call)}
	case api.TypeFloat:
		list = []api.Node{bin(call, "!=", call), bin(call, "==", ast.Float("0.0")), bin(call, ">", ast.Float("0.0")), bin(call, "<", ast.Float("0.0"))}
	case api.TypeInt:
		list = []api.Node{bin(call, "==", nearest(p, call))}
	}
	for _, claim := range list {
		if holds(p, claim) {
			return claim, true
		}
	}
	return api.Node{}, false
}

// nearest is a literal, perhaps with a sign, that is a whole number's value, if it has one.
func nearest(p api.Node, call api.Node) api.Node {
	literal := func(n int64) api.Node {
		if n < 0 {
			return named(api.NodeUnary, "-", whole(-n))
		}
		return whole(n)
	}
	low, above := int64(math.MinInt64+1), int64(math.MaxInt64)
	for low < above {
		middle := low/2 + above/2 + (low%2+above%2)/2
		if middle == above {
			middle-- // the halves are cut towards nought
		}
		if holds(p, bin(call, ">", literal(middle))) {
			low = middle + 1
		} else {
			above = middle
		}
	}
	return literal(low)
}

// holds tells whether an assertion holds in a program.
func holds(p api.Node, claim api.Node) bool {
	p = ast.Clone(p)
	p.Kids = append(p.Kids, named(api.NodeTest, "probe", block(tree(api.NodeAssert, claim))))
	return kill.Outcome(p, "probe", api.Fuel) == api.Pass
}

// wholly holds a program's whole matrix, and all of what its verdicts came to, against the definition.
func wholly(t *testing.T, what string, x shelf, p api.Node, want api.Matrix, truth map[string]int) api.Stats {
	t.Helper()
	was := ast.Clone(p)
	m, stats, e := Whole(x.Store, p)
	ok(t, what+": Whole", e)
	stays(t, p, was)
	alike(t, what, m, want)
	cells := 0
	for _, end := range want.Base {
		if end == api.Pass {
			cells += len(want.Mutants)
		}
	}
	same(t, what+": cells of tests that pass", stats.Run+stats.Kept+stats.Passed, cells)
	for key, n := range x.Verdicts() {
		if verdict, is := truth[key]; !is || verdict != n {
			t.Errorf("%s: %d is kept, by the definition it is %d, %v", what, n, verdict, is)
		}
	}
	if t.Failed() {
		t.Fatal(short(ast.Print(p)))
	}
	return stats
}

// learn puts all verdicts of a program, by the definition, to those of others: each key has one verdict alone.
func learn(t *testing.T, p api.Node, m api.Matrix, truth map[string]int) {
	t.Helper()
	for i, x := range m.Mutants {
		other := mutant(t, p, x.Func, x.Node, x.Turn)
		for k, name := range m.Tests {
			if m.Base[k] != api.Pass {
				continue
			}
			key := keyOf(other, name)
			if n, is := truth[key]; is && n != m.Cells[i][k] {
				t.Fatalf("%s: a key of %d and of %d", short(ast.Print(other)), n, m.Cells[i][k])
			}
			truth[key] = m.Cells[i][k]
		}
	}
}

// tally is how many cells of a sort there were.
type tally struct {
	cells map[int]int
	stats api.Stats
}

func (l *tally) count(m api.Matrix, s api.Stats) {
	for _, row := range m.Cells {
		for _, cell := range row {
			l.cells[cell]++
		}
	}
	l.stats = api.Stats{Run: l.stats.Run + s.Run, Kept: l.stats.Kept + s.Kept, Passed: l.stats.Passed + s.Passed}
}

// Promises 18.1, 18.2 and T1: whole matrices of chance programs, with an empty store, a second time, and behind a loss of power.
func TestWholeByChance(t *testing.T) {
	rnd := chance(1)
	all := tally{cells: map[int]int{}}
	for range 80 {
		p := sharpened(rnd, 200)
		want, truth := defined(t, p), map[string]int{}
		learn(t, p, want, truth)
		x := fresh(t)
		stats := wholly(t, "an empty store", x, p, want, truth)
		all.count(want, stats)
		kept := x.Verdicts()
		again := api.Stats{Kept: stats.Run + stats.Kept, Passed: stats.Passed}
		for range 2 {
			same(t, "Stats", wholly(t, "the second time", x, p, want, truth), again)
			x = x.again(t)
			same(t, "verdicts behind a loss of power", maps.Equal(x.Verdicts(), kept), true)
			p = checked(t, ast.Print(p))
		}
	}
	if c := all.cells; c[0] < 500 || c[api.Pass] < 2000 || c[api.TrapAssert] < 300 || c[api.TrapZero] < 20 || c[api.TrapFuel] < 20 || all.stats.Run < 1000 || all.stats.Passed < 1000 {
		t.Errorf("too few of a sort: %v", all)
	}
}

// kin is a program that has much of another one: one of its mutants, or with tests more, tests fewer, or all elsewhere.
func kin(rnd *rand.Rand, p api.Node) api.Node {
	list := mutate.List(p)
	if len(list) > 0 && rnd.Intn(3) > 0 {
		p, _ = mutate.Apply(p, list[rnd.Intn(len(list))])
	}
	p = ast.Clone(p)
	switch rnd.Intn(4) {
	case 0:
		rnd.Shuffle(len(p.Kids), func(i, j int) { p.Kids[i], p.Kids[j] = p.Kids[j], p.Kids[i] })
	case 1:
		for i, d := range p.Kids {
			if d.Kind == api.NodeTest {
				p.Kids = append(p.Kids[:i], p.Kids[i+1:]...)
				break
			}
		}
	case 2:
		tests := ast.Names(p, api.NodeTest)
		if len(tests) > 0 {
			d, _ := ast.Find(p, tests[rnd.Intn(len(tests))])
			if _, twice := ast.Find(p, "more"); !twice {
				d.S = "more"
				p.Kids = append(p.Kids, d)
			}
		}
	}
	return p
}

// Promises 18.2 and T1: with a store that matrices of other programs have filled, which have much of it, the matrix is the definition's.
func TestWholeBesideOthers(t *testing.T) {
	rnd := chance(2)
	all := tally{cells: map[int]int{}}
	for range 20 {
		x, truth := fresh(t), map[string]int{}
		first := sharpened(rnd, 200)
		family := []api.Node{first}
		for range 9 {
			p := family[rnd.Intn(len(family))]
			if rnd.Intn(8) == 0 {
				p = sharpened(rnd, 60)
			}
			p = kin(rnd, p)
			family = append(family, p)
			want := defined(t, p)
			learn(t, p, want, truth)
			all.count(want, wholly(t, "beside others", x, p, want, truth))
			if rnd.Intn(3) == 0 {
				x = x.again(t)
			}
		}
	}
	if s := all.stats; s.Run < 1000 || s.Kept < 500 || s.Passed < 1000 {
		t.Errorf("too few of a sort: %v", all)
	}
}

// Promise 18.1: chance programs step by step, with room that comes and goes, each step held against the chapter's words.
func TestStepsByChance(t *testing.T) {
	rnd := chance(3)
	var all api.Stats
	for i := range 24 {
		x := fresh(t)
		p := sharpened(rnd, 60)
		shut := []int{0, 2, 9, 10}[i%4]
		room := func(step int) bool { return step > 400 || rnd.Intn(10) >= shut }
		for range 3 {
			m := follow(t, x, p, room)
			alike(t, "by the definition", m.matrix(), defined(t, p))
			all.Run, all.Kept = all.Run+m.stats.Run, all.Kept+m.stats.Kept
			p = kin(rnd, p)
		}
	}
	if all.Run < 500 || all.Kept < 200 {
		t.Errorf("too few of a sort: %v", all)
	}
}

// Promise 18.1: twins: chance programs with signs twice ahead of expressions, whose mutants are the same programs.
func TestTwinsByChance(t *testing.T) {
	rnd := chance(4)
	twins := 0
	for range 40 {
		x := fresh(t)
		p := doubled(rnd, sharpened(rnd, 40))
		m := follow(t, x, p, roomy)
		alike(t, "twins", m.matrix(), defined(t, p))
		twins += m.stats.Run - len(x.Verdicts())
	}
	if twins < 10 {
		t.Errorf("too few: %d", twins)
	}
}

// doubled is a program with two signs ahead of some of its numbers and truths, which change nothing.
func doubled(rnd *rand.Rand, p api.Node) api.Node {
	for place := ast.Count(p) - 1; place > 0; place-- {
		n, _ := ast.At(p, place)
		sign := map[int]string{api.NodeInt: "-", api.NodeBool: "!"}[n.Kind]
		if sign == "" || rnd.Intn(4) > 0 {
			continue
		}
		if q := ast.Replace(p, place, named(api.NodeUnary, sign, named(api.NodeUnary, sign, n))); accepted(q) {
			p = q
		}
	}
	return p
}

func accepted(p api.Node) bool {
	_, _, e := check.Program(p)
	return e == api.OK
}
