package kill

import (
	"cupel/api"
	"cupel/wire"
)

const (
	endBytes = 1 // of how a test ends
	mostTurn = 3 // that a mutant is
)

// Put puts a matrix. Its bytes do not tell how long its lists are but once, so that of one whose lists do not fit what is not there is put as 0, and what is too much is left out.
func Put(w *wire.Writer, m api.Matrix) {
	w.Count(len(m.Tests))
	for i, name := range m.Tests {
		w.Text(name)
		putEnd(w, m.Base, i)
	}
	w.Count(len(m.Mutants))
	for i, mutant := range m.Mutants {
		w.Text(mutant.Func)
		w.Count(mutant.Node)
		w.Count(mutant.Turn)
		row := rowOf(m, i)
		for test := range m.Tests {
			putEnd(w, row, test)
		}
	}
}

// putEnd puts how a test ends.
func putEnd(w *wire.Writer, ends []int, test int) {
	end := 0
	if test < len(ends) {
		end = ends[test]
	}
	w.Number(uint64(end), endBytes)
}

// Take takes a matrix.
func Take(r *wire.Reader) api.Matrix {
	var m api.Matrix
	for range r.Count(api.MaxFuncs) {
		m.Tests = append(m.Tests, r.Text(api.MaxName))
		m.Base = append(m.Base, takeEnd(r))
	}
	for range r.Count(api.MaxSites) {
		mutant := api.Mutant{Func: r.Text(api.MaxName), Node: r.Count(api.MaxNodes), Turn: r.Count(mostTurn)}
		m.Mutants = append(m.Mutants, mutant)
		m.Cells = append(m.Cells, takeRow(r, len(m.Tests)))
	}
	if r.Err() != api.OK {
		return api.Matrix{}
	}
	return m
}

// takeRow takes a mutant's cells.
func takeRow(r *wire.Reader, tests int) []int {
	row := make([]int, tests)
	for i := range row {
		row[i] = takeEnd(r)
	}
	return row
}

// takeEnd takes how a test ends.
func takeEnd(r *wire.Reader) int { return int(r.Number(endBytes)) }
