package kill

import (
	"math"
	"slices"
	"testing"

	"cupel/api"
)

// Promise 17.1: a test kills where its cell is neither 0 nor Pass.
func TestKilled(t *testing.T) {
	for cell, want := range map[int]bool{
		0: false, api.Pass: false,
		api.TrapAssert: true, api.TrapZero: true, api.TrapConv: true, api.TrapDeep: true, api.TrapFuel: true,
		7: true, -1: true, -2: true, 255: true, 256: true, 257: true, math.MinInt: true, math.MaxInt: true, 1 << 32: true, 1<<32 + 1: true,
	} {
		same(t, "killed", Killed(cell), want)
	}
}

// grid is a matrix with these rows of cells, of functions with as many tests as the first one has cells.
func grid(rows ...[]int) api.Matrix {
	m := api.Matrix{Cells: rows}
	for i := range rows {
		m.Mutants = append(m.Mutants, api.Mutant{Func: "f", Node: 3 + i, Turn: i % 3})
	}
	for i := range slices.Concat(rows[:min(1, len(rows))]...) {
		m.Tests = append(m.Tests, "t"+string(rune('a'+i)))
		m.Base = append(m.Base, api.Pass)
	}
	return m
}

// Promise 17.1: how many mutants, and how many of them some test kills.
func TestCount(t *testing.T) {
	counts(t, "nothing", api.Matrix{}, 0, 0)
	counts(t, "no mutants", api.Matrix{Tests: []string{"t"}, Base: []int{api.TrapAssert}}, 0, 0)
	counts(t, "no mutants", api.Matrix{Tests: []string{}, Base: []int{}, Mutants: []api.Mutant{}, Cells: [][]int{}}, 0, 0)
	counts(t, "no tests", grid(nil, []int{}, nil), 3, 0)
	counts(t, "none killed", grid([]int{1, 1}, []int{1, 0}, []int{0, 0}), 3, 0)
	counts(t, "all killed", grid([]int{2, 2}, []int{3, 4}, []int{5, 6}), 3, 3)
	counts(t, "by the first test alone", grid([]int{2, 1, 0}, []int{1, 1, 1}), 2, 1)
	counts(t, "by the last test alone", grid([]int{1, 1, 1}, []int{1, 0, 6}), 2, 1)
	counts(t, "by one in the middle", grid([]int{0, 3, 0}, []int{1, 4, 1}), 2, 2)
	counts(t, "by several", grid([]int{2, 2, 2}, []int{1, 1, 1}, []int{2, 2, 0}), 3, 2)
	failing := grid([]int{1, 0}, []int{1, 0})
	failing.Base[1] = api.TrapAssert
	counts(t, "a base that fails does not count", failing, 2, 0)
}

// Rule R1: matrices whose lists do not fit: mutants without cells are not killed, and of cells without a mutant there is none.
func TestCountOfAnyMatrix(t *testing.T) {
	m := grid([]int{2}, []int{2}, []int{2})
	m.Cells = m.Cells[:1]
	counts(t, "too few rows", m, 3, 1)
	m.Cells = nil
	counts(t, "no rows", m, 3, 0)
	m.Cells = [][]int{{2}, {2}, {2}, {2}, {2}}
	counts(t, "too many rows", m, 3, 3)
	m.Mutants = nil
	counts(t, "rows alone", m, 0, 0)
	counts(t, "rows of unlike lengths", grid([]int{1, 1}, nil, []int{1, 1, 1, 1}, []int{2}), 4, 1)
}

// Promise 17.1: what Count tells of chance matrices, counted test by test.
func TestCountByChance(t *testing.T) {
	rnd := chance(2)
	for range 500 {
		m := anyMatrix(rnd)
		killed := map[int]int{}
		for k := range m.Tests {
			for i := range m.Mutants {
				switch m.Cells[i][k] {
				case 0, 1:
				default:
					killed[i]++
				}
			}
		}
		was := full(m)
		counts(t, "a chance matrix", m, len(m.Mutants), len(killed))
		alike(t, "what was handed in", m, was)
	}
}
