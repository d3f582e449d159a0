package kill

import (
	"math"
	"math/rand"
	"reflect"
	"strconv"
	"strings"
	"testing"

	"cupel/api"
	"cupel/ast"
	"cupel/mutate"
)

const example = "func f(a int) int { return a + 1; } test t { assert f(1) == 2; }"

// The chapter's example: both mutants are killed.
func TestExample(t *testing.T) {
	m := tells(t, example, api.Fuel,
		"t=1",
		"f.4.0: 2",
		"f.6.0: 2")
	counts(t, "the example", m, 2, 2)
}

// Promise 17.1: the tests in their order, all mutants in theirs, the cells by mutants, then tests.
func TestOrder(t *testing.T) {
	m := tells(t, `
		test z { assert g(1) == 2; }
		func g(a int) int { return a * 2; }
		test a { assert f(2) && !f(3); }
		func f(a int) bool { return a < 3; }
		test m { assert f(g(1)) && g(0) == 0; }`, api.Fuel,
		"z=1 a=1 m=1",
		"g.4.0: 2 1 1", // a / 2
		"g.6.0: 2 1 2", // a * 3
		"g.6.1: 2 1 1", // a * 0
		"f.4.0: 1 2 1", // a <= 3
		"f.4.1: 1 2 2", // a >= 3
		"f.6.0: 1 2 1", // a < 4
		"f.6.1: 1 2 2") // a < 0
	counts(t, "in order", m, 7, 7)
}

// Promise 17.1: each trap in a cell; one mutant loops till its fuel is gone.
func TestCells(t *testing.T) {
	tells(t, "func f(n int) int { i := 0; for i < n { i = i + 1; } return i; } test t { assert f(3) == 3; }", api.Fuel,
		"t=1",
		"f.4.0: 1",  // i := 1
		"f.6.0: 2",  // i <= n
		"f.6.1: 2",  // i >= n
		"f.10.0: 6", // skip
		"f.11.0: 6", // i - 1
		"f.13.0: 2") // i + 2
	tells(t, "func f(n int) int { if n < 1 { return 0; } return f(n - 1); } test t { assert f(2) == 0; }", api.Fuel,
		"t=1",
		"f.4.0: 1",  // n <= 1
		"f.4.1: 1",  // n >= 1
		"f.6.0: 1",  // n < 2
		"f.9.0: 2",  // return 1
		"f.12.0: 5", // n + 1
		"f.14.0: 1") // n - 2
	tells(t, "func f(a float) int { return int(1.5 * a) % 7; } test t { assert f(0.0) == 0; }", api.Fuel,
		"t=1",
		"f.4.0: 1", // * for %
		"f.6.0: 4", // 1.5 / a
		"f.7.0: 1", // 0.0 for 1.5
		"f.9.0: 1", // % 8
		"f.9.1: 3") // % 0
}

// Promise 17.1: a mutant at a node that no test comes to ends as the program.
func TestMutantsThatNoTestComesTo(t *testing.T) {
	m := tells(t, "func f(a int) int { if a == 0 { return 7; } return a; } func g() bool { return true; } test t { assert f(1) == 1; } test u { assert false && g(); }", api.Fuel,
		"t=1 u=2",
		"f.4.0: 2 0", // a != 0
		"f.6.0: 2 0", // a == 1
		"f.9.0: 1 0", // 8
		"f.9.1: 1 0", // 0
		"g.3.0: 1 0") // false
	counts(t, "not come to", m, 5, 2)
}

// Promise 17.1: the cells of a test that does not pass on the program are 0, though a mutant would let it pass, or end otherwise.
func TestTestsThatDoNotPass(t *testing.T) {
	m := tells(t, `
		var v int = 0;
		func f(a int) int { return a + 1; }
		func d(n int) int { return d(n); }
		test wrong { assert f(1) == 0; }
		test nought { assert 1 / v == f(v); }
		test number { assert int(1.0 / 0.0) == f(1); }
		test deep { assert d(f(1)) == 0; }
		test long { for f(0) > 0 { } }
		test right { assert f(1) == 2; }`, api.Fuel,
		"wrong=2 nought=3 number=4 deep=5 long=6 right=1",
		"f.4.0: 0 0 0 0 0 2",
		"f.6.0: 0 0 0 0 0 2")
	counts(t, "some do not pass", m, 2, 2)
	counts(t, "none passes", tells(t, "func f(a int) int { return a + 1; } test t { assert f(1) == 0; }", api.Fuel, "t=2", "f.4.0: 0", "f.6.0: 0"), 2, 0)
}

// Promise 17.1: programs that have nothing of a sort.
func TestMatricesOfLittle(t *testing.T) {
	counts(t, "nothing", tells(t, "", api.Fuel, ""), 0, 0)
	counts(t, "globals alone", tells(t, "var v int = 7; var w bool = true;", api.Fuel, ""), 0, 0)
	counts(t, "no tests", tells(t, "var v int = 5; func f(a int) int { return a + 1; }", api.Fuel, "", "f.4.0:", "f.6.0:"), 2, 0)
	counts(t, "no functions", tells(t, "var v int = 5; test t { assert v + 1 == 6; } test u { assert v < 5; }", api.Fuel, "t=1 u=2"), 0, 0)
	counts(t, "no mutants", tells(t, "func f(a int) int { return a; } test t { assert f(1) == 1; }", api.Fuel, "t=1"), 0, 0)
	counts(t, "an empty test", tells(t, "func f(a int) int { return a + 1; } test t { }", api.Fuel, "t=1", "f.4.0: 1", "f.6.0: 1"), 2, 0)
}

// Promise 17.1: as much fuel as is said, on the program and on each mutant.
func TestMatrixByFuel(t *testing.T) {
	tells(t, example, 0, "t=6", "f.4.0: 0", "f.6.0: 0")
	tells(t, example, 10, "t=6", "f.4.0: 0", "f.6.0: 0")
	tells(t, example, 11, "t=1", "f.4.0: 2", "f.6.0: 2")
	tells(t, example, api.MaxFuel, "t=1", "f.4.0: 2", "f.6.0: 2")
	const longer = "func f(a int) bool { return a < 0 || a + 1 > 5; } test t { assert f(-3); }"
	tells(t, longer, 11, // a block, assert, f(-3), -, 3, a block, return, ||, <, a, 0
		"t=1",
		"f.4.0: 6", // && takes more steps
		"f.5.0: 1", // a <= 0
		"f.5.1: 6", // a >= 0 takes more steps, too
		"f.7.0: 1", // a < 1
		"f.8.0: 1", // not come to
		"f.8.1: 1",
		"f.9.0: 1",
		"f.11.0: 1",
		"f.12.0: 1",
		"f.12.1: 1")
	tells(t, longer, 16,
		"t=1",
		"f.4.0: 2",
		"f.5.0: 1",
		"f.5.1: 2",
		"f.7.0: 1",
		"f.8.0: 1",
		"f.8.1: 1",
		"f.9.0: 1",
		"f.11.0: 1",
		"f.12.0: 1",
		"f.12.1: 1")
}

// refuses tells that a matrix is refused, with nothing beside the error.
func refuses(t *testing.T, what string, p api.Node, fuel int, want api.Errno) {
	t.Helper()
	was := ast.Clone(p)
	for range 2 {
		m, e := Matrix(p, fuel)
		same(t, what+": the error", e, want)
		if !reflect.DeepEqual(m, api.Matrix{}) {
			t.Errorf("%s: %v beside an error", what, m)
		}
	}
	if !reflect.DeepEqual(ast.Clone(p), was) {
		t.Errorf("%s: what was handed in does not stay", what)
	}
}

// Promise 17.1: check's error, ahead of fuel that may not be.
func TestMatricesOfOtherPrograms(t *testing.T) {
	for what, r := range rejectedOnes(t) {
		for _, fuel := range []int{0, 100, api.MaxFuel, -1, api.MaxFuel + 1, math.MinInt, math.MaxInt} {
			refuses(t, what, r.p, fuel, r.why)
		}
	}
}

// Promise 17.1: fuel is 0 to MaxFuel.
func TestMatricesOfOtherFuel(t *testing.T) {
	for _, text := range []string{example, "", "test t { }", "func f(a int) int { return a + 1; }"} {
		p := parsed(t, text)
		for _, fuel := range []int{-1, -2, math.MinInt, math.MinInt32, api.MaxFuel + 1, math.MaxInt32, math.MaxInt, 1 << 32, 1<<32 + 1} {
			refuses(t, short(text), p, fuel, api.ErrArg)
		}
		for _, fuel := range []int{0, 1, api.MaxFuel - 1, api.MaxFuel} {
			matrixOf(t, p, fuel)
		}
	}
}

// Promise 17.1: a program that is checked has the matrix that it had before, whatever types its expressions bring along.
func TestMatrixOfACheckedProgram(t *testing.T) {
	const text = "var v float = 0.5; func f(a int) int { x := a; if !(v > 1.0) { x = -x; } return x * 3; } test t { assert f(2) == -6; }"
	p := parsed(t, text)
	want := matrixOf(t, p, api.Fuel)
	alike(t, "checked", matrixOf(t, sourceOf(t, text), api.Fuel), want)
	wrong := p
	for place, n := range ast.All(p) {
		if n.Kind >= api.NodeInt && n.Kind != api.NodeConv {
			n, _ = ast.At(wrong, place)
			n.T = place%6 - 1
			wrong = ast.Replace(wrong, place, n)
		}
	}
	alike(t, "with types of any kind", matrixOf(t, wrong, api.Fuel), want)
}

// Promise 17.1: as many tests and functions as may be; of more mutants than may be the first ones.
func TestMatrixOfMuch(t *testing.T) {
	var text strings.Builder
	for i := range 25 {
		text.WriteString("func f" + string(rune('a'+i)) + "(a int) bool { return a + 2 + 3 == a + 5 && a + 5 < a + 6 && a + 7 != a + 8; } ")
	}
	for i := range api.MaxFuncs - 25 {
		text.WriteString("test t" + string(rune('a'+i)) + " { assert f" + string(rune('a'+3*i)) + "(1); } ")
	}
	p := parsed(t, text.String())
	m := matrixOf(t, p, 60)
	same(t, "tests", len(m.Tests), api.MaxFuncs-25)
	same(t, "mutants", len(m.Mutants), api.MaxSites)
	same(t, "rows", len(m.Cells), api.MaxSites)
	if mutants, killed := Count(m); mutants != api.MaxSites || killed < 50 {
		t.Errorf("%d mutants, %d killed", mutants, killed)
	}
	byRuns(t, p, 60, m, someRows(chance(9), m)...)
}

// Promise 17.1: as many tests as may be.
func TestMatrixOfTestsAlone(t *testing.T) {
	p := parsed(t, "func f() int { return 0; } "+strings.Repeat("test t { assert f() == 0; } ", api.MaxFuncs-1))
	for i := range p.Kids[1:] {
		p.Kids[1+i].S = "t" + strconv.Itoa(90-i)
	}
	m := matrixOf(t, p, api.Fuel)
	same(t, "all of them", told(m), strings.TrimSpace(strings.Join(m.Tests, "=1 ")+"=1\nf.3.0:"+strings.Repeat(" 2", api.MaxFuncs-1)))
	same(t, "tests", len(m.Tests), api.MaxFuncs-1)
}

// Rule R2: what is answered is the caller's own, and so is each of its lists.
func TestMatrixIsTheCallersOwn(t *testing.T) {
	p := parsed(t, "func f(a int) int { return a + 1; } test t { assert f(1) == 2; } test u { assert f(2) == 3; } test w { }")
	m := matrixOf(t, p, api.Fuel)
	want := told(m)
	for i := range m.Cells {
		row := m.Cells[i][:cap(m.Cells[i])] // what lies behind a list is not another one's, either
		for k := range row {
			row[k] = -1
		}
		for k := range m.Cells {
			if k > i && m.Cells[k][0] == -1 {
				t.Errorf("row %d is in row %d, too", i, k)
			}
		}
	}
	m.Tests[0], m.Base[0], m.Mutants[0] = "spoilt", -1, api.Mutant{}
	same(t, "another one", told(matrixOf(t, p, api.Fuel)), want)
	m = matrixOf(t, p, api.Fuel)
	p.Kids[0].S, p.Kids[1] = "spoilt", api.Node{}
	same(t, "what was answered", told(m), want)
}

// byRuns holds each cell against a run of that test alone, on the text of that mutant alone; of some rows.
func byRuns(t *testing.T, p api.Node, fuel int, m api.Matrix, rows ...int) map[int]int {
	t.Helper()
	mutants := mutate.List(p)
	if !reflect.DeepEqual(full(m).Mutants, append([]api.Mutant{}, mutants...)) {
		t.Errorf("the mutants %v, not %v", m.Mutants, mutants)
	}
	var tests []string
	for _, d := range p.Kids {
		if d.Kind == api.NodeTest {
			tests = append(tests, d.S)
		}
	}
	same(t, "the tests", strings.Join(m.Tests, " "), strings.Join(tests, " "))
	same(t, "rows", len(m.Cells), len(mutants))
	base := alone(t, p, tests, fuel)
	if !reflect.DeepEqual(full(m).Base, base) {
		t.Fatalf("%s: the base %v, not %v", ast.Print(p), m.Base, base)
	}
	tally := map[int]int{}
	for _, i := range rows {
		other, e := mutate.Apply(p, mutants[i])
		same(t, "a mutant's error", e, api.OK)
		want := alone(t, other, tests, fuel)
		for k := range want {
			if base[k] != api.Pass {
				want[k] = 0
			}
			tally[want[k]]++
		}
		if !reflect.DeepEqual(append([]int{}, m.Cells[i]...), want) {
			t.Fatalf("%s: %v: the cells %v, not %v", ast.Print(p), mutants[i], m.Cells[i], want)
		}
	}
	return tally
}

// someRows is some of a matrix's rows, the first one and the last one with them.
func someRows(rnd *rand.Rand, m api.Matrix) []int {
	rows := rnd.Perm(len(m.Mutants))
	if len(rows) > 20 {
		rows = append(rows[:20], 0, len(m.Mutants)-1)
	}
	return rows
}

// alone is how each test ends on the program that has no other test, by its text.
func alone(t *testing.T, p api.Node, tests []string, fuel int) []int {
	t.Helper()
	list := []int{}
	for _, name := range tests {
		var one api.Node
		for _, d := range p.Kids {
			if d.Kind != api.NodeTest || d.S == name {
				one.Kids = append(one.Kids, d)
			}
		}
		one.Kind = api.NodeProgram
		list = append(list, Outcome(sourceOf(t, ast.Print(one)), name, fuel))
	}
	return list
}
