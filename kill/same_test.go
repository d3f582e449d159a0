package kill

import (
	"testing"

	"cupel/api"
)

// sample is a matrix of two tests and three mutants, each time a new one.
func sample() api.Matrix {
	return api.Matrix{
		Tests:   []string{"t", "u"},
		Base:    []int{api.Pass, api.TrapAssert},
		Mutants: []api.Mutant{{Func: "f", Node: 4, Turn: 0}, {Func: "f", Node: 6, Turn: 1}, {Func: "g", Node: 3, Turn: 2}},
		Cells:   [][]int{{2, 0}, {1, 0}, {6, 0}},
	}
}

// Promise 17.1: matrices that are alike.
func TestSame(t *testing.T) {
	alike(t, "two of a kind", sample(), sample())
	m := sample()
	alike(t, "with itself", m, m)
	alike(t, "nothing", api.Matrix{}, api.Matrix{})
}

// Rule R3: a list that is nil, and one that is empty, are the same.
func TestSameOfEmptyLists(t *testing.T) {
	empty := api.Matrix{Tests: []string{}, Base: []int{}, Mutants: []api.Mutant{}, Cells: [][]int{}}
	alike(t, "nothing, and empty lists", api.Matrix{}, empty)
	alike(t, "rows that are nil, and empty ones", grid(nil, []int{}, nil), grid([]int{}, nil, nil))
	m := grid(nil, nil)
	m.Tests, m.Base = []string{}, []int{}
	alike(t, "no tests", m, grid([]int{}, []int{}))
	unlike(t, "empty rows, and none", grid(nil, nil), api.Matrix{Mutants: grid(nil, nil).Mutants})
	unlike(t, "an empty row more", grid(nil), api.Matrix{Mutants: grid(nil).Mutants, Cells: [][]int{{}, {}}})
}

// Promise 17.1: matrices that are unlike in one thing.
func TestUnlike(t *testing.T) {
	for what, change := range map[string]func(m *api.Matrix){
		"the first test's name":         func(m *api.Matrix) { m.Tests[0] = "T" },
		"the last test's name":          func(m *api.Matrix) { m.Tests[1] = "" },
		"two tests in another order":    func(m *api.Matrix) { m.Tests[0], m.Tests[1] = m.Tests[1], m.Tests[0] },
		"the first base":                func(m *api.Matrix) { m.Base[0] = 0 },
		"the last base":                 func(m *api.Matrix) { m.Base[1] = api.TrapZero },
		"the first mutant's function":   func(m *api.Matrix) { m.Mutants[0].Func = "g" },
		"the last mutant's function":    func(m *api.Matrix) { m.Mutants[2].Func = "f" },
		"the first mutant's place":      func(m *api.Matrix) { m.Mutants[0].Node = 5 },
		"the last mutant's place":       func(m *api.Matrix) { m.Mutants[2].Node = 4 },
		"the first mutant's turn":       func(m *api.Matrix) { m.Mutants[0].Turn = 1 },
		"the last mutant's turn":        func(m *api.Matrix) { m.Mutants[2].Turn = 0 },
		"two mutants in another order":  func(m *api.Matrix) { m.Mutants[0], m.Mutants[1] = m.Mutants[1], m.Mutants[0] },
		"the first cell":                func(m *api.Matrix) { m.Cells[0][0] = 1 },
		"the last cell of the first":    func(m *api.Matrix) { m.Cells[0][1] = 1 },
		"the first cell of the last":    func(m *api.Matrix) { m.Cells[2][0] = 5 },
		"the last cell":                 func(m *api.Matrix) { m.Cells[2][1] = 2 },
		"two rows in another order":     func(m *api.Matrix) { m.Cells[0], m.Cells[1] = m.Cells[1], m.Cells[0] },
		"a test less":                   func(m *api.Matrix) { m.Tests = m.Tests[:1] },
		"a test more":                   func(m *api.Matrix) { m.Tests = append(m.Tests, "") },
		"a base less":                   func(m *api.Matrix) { m.Base = m.Base[:1] },
		"a base more":                   func(m *api.Matrix) { m.Base = append(m.Base, 0) },
		"a mutant less":                 func(m *api.Matrix) { m.Mutants = m.Mutants[:2] },
		"a mutant more":                 func(m *api.Matrix) { m.Mutants = append(m.Mutants, api.Mutant{}) },
		"a row less":                    func(m *api.Matrix) { m.Cells = m.Cells[:2] },
		"a row more":                    func(m *api.Matrix) { m.Cells = append(m.Cells, nil) },
		"a cell less":                   func(m *api.Matrix) { m.Cells[1] = m.Cells[1][:1] },
		"a cell more":                   func(m *api.Matrix) { m.Cells[2] = append(m.Cells[2], 0) },
		"no tests":                      func(m *api.Matrix) { m.Tests = nil },
		"no base":                       func(m *api.Matrix) { m.Base = nil },
		"no mutants":                    func(m *api.Matrix) { m.Mutants = nil },
		"no cells":                      func(m *api.Matrix) { m.Cells = nil },
		"a row without cells":           func(m *api.Matrix) { m.Cells[2] = nil },
		"a base that is alike as bytes": func(m *api.Matrix) { m.Base[0] += 256 },
		"a cell that is alike as bytes": func(m *api.Matrix) { m.Cells[0][0] += 256 },
		"nothing":                       func(m *api.Matrix) { *m = api.Matrix{} },
	} {
		m := sample()
		change(&m)
		unlike(t, what, m, sample())
		alike(t, what+", twice", m, full(m))
	}
}

// Promise 17.1: chance matrices are the same as their copies, and not as ones with any number otherwise.
func TestSameByChance(t *testing.T) {
	rnd := chance(3)
	for range 300 {
		m := anyMatrix(rnd)
		alike(t, "a copy", m, full(m))
		other := full(m)
		if len(m.Tests) > 0 {
			i := rnd.Intn(len(m.Tests))
			other.Base[i]++
			unlike(t, "a base", m, other)
			other.Base[i]--
		}
		if len(m.Mutants) > 0 {
			i := rnd.Intn(len(m.Mutants))
			other.Mutants[i].Node++
			unlike(t, "a place", m, other)
			other.Mutants[i].Node--
			if len(m.Tests) > 0 {
				other.Cells[i][rnd.Intn(len(m.Tests))]++
				unlike(t, "a cell", m, other)
			}
		}
	}
}
