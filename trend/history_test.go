package trend

import (
	"slices"
	"strconv"
	"testing"

	"cupel/api"
)

// step is the program of a place in a row: it differs from place to place, and so does its row.
func step(i int) string {
	s := "func f(a int) int { return a + " + strconv.Itoa(i+2) + "; } " // three mutants
	if i%3 > 0 {
		s += "test t { assert f(1) == " + strconv.Itoa(i+3) + "; } " // it kills all of them
	}
	if i%2 > 0 {
		s += "func g(a bool) bool { return !a; } " // two mutants, which nobody kills
	}
	return s
}

// Promise 19.1: History of a commit alone, and of several behind one another, the last one first.
func TestHistory(t *testing.T) {
	x := fresh(t)
	ids := x.row(t, step(0), step(1), step(2), step(3), step(2))
	var want []api.Row
	for i, place := range []int{0, 1, 2, 3, 2} {
		want = slices.Insert(want, 0, rowOf(t, ids[i], step(place)))
		histories(t, "place "+strconv.Itoa(i), x, ids[i], want...)
	}
	for i, n := range [][2]int{{3, 3}, {want[1].Mutants, 0}, {3, 3}, {want[3].Mutants, 3}, {3, 0}} {
		same(t, "mutants and killed ones of row "+strconv.Itoa(i), [2]int{want[i].Mutants, want[i].Killed}, n)
	}
	if got, all := Trend(want), []int{0 - want[1].Left, want[1].Left, 0 - want[3].Left, want[3].Left - 3}; !slices.Equal(got, all) {
		t.Errorf("its trend: %v, not %v", got, all)
	}
	x = x.again(t)
	histories(t, "behind a loss of power", x, ids[4], want...)
}

// Promise 19.1: of commits with one parent each has its own history, which has nothing of commits behind it or beside it.
func TestHistoryBesideOthers(t *testing.T) {
	x := fresh(t)
	a := x.add(t, step(0), "")
	b := x.add(t, step(1), a)
	c := x.add(t, step(2), a)
	d := x.add(t, step(4), c)
	e := x.add(t, step(4), "")
	row := func(id string, place int) api.Row { return rowOf(t, id, step(place)) }
	histories(t, "a", x, a, row(a, 0))
	histories(t, "b", x, b, row(b, 1), row(a, 0))
	histories(t, "c", x, c, row(c, 2), row(a, 0))
	histories(t, "d", x, d, row(d, 4), row(c, 2), row(a, 0))
	histories(t, "e", x, e, row(e, 4))
}

// Promise 19.1: MaxChain commits have a history; one more: ErrMany, and nothing is run for it.
func TestHistoryOfMost(t *testing.T) {
	x := fresh(t)
	var want []api.Row
	last := ""
	for i := range api.MaxChain {
		last = x.add(t, step(i), last)
		want = slices.Insert(want, 0, rowOf(t, last, step(i)))
	}
	for _, i := range []int{0, 1, 62} {
		histories(t, "the one at "+strconv.Itoa(i), x, want[63-i].ID, want[63-i:]...)
	}
	more := x.add(t, step(64), last)
	most := x.add(t, step(65), more)
	x.untouched(t, "too many", func() {
		noHistory(t, "one more than MaxChain", x.Store, more, api.ErrMany)
		noHistory(t, "two more than MaxChain", x.Store, most, api.ErrMany)
	})
	histories(t, "MaxChain", x, last, want...)
	row, e := Row(x.Store, most)
	ok(t, "Row", e)
	same(t, "the row of one that has no history", row, rowOf(t, most, step(65)))
	selects(t, "one that has no history", x, more, "t")
}

// Promise 19.1: ErrMany goes ahead of what rows answer.
func TestHistoryOfManyBroken(t *testing.T) {
	x := fresh(t)
	sources := []string{"test"}
	for i := range api.MaxChain {
		sources = append(sources, "test t"+strconv.Itoa(i)+" { }")
	}
	ids := x.row(t, sources...)
	noHistory(t, "MaxChain and one more", x.Store, ids[api.MaxChain], api.ErrMany)
	noHistory(t, "MaxChain", x.Store, ids[api.MaxChain-1], api.ErrParse)
	many := x.add(t, "?", ids[api.MaxChain])
	noHistory(t, "one that is broken behind too many", x.Store, many, api.ErrMany)
	noRow(t, "its row", x.Store, many, api.ErrLex)
}

// Promise 19.1: a commit among them whose source is no program; of several the last one's error is told.
func TestHistoryOfBroken(t *testing.T) {
	for at := range 3 {
		for source, want := range broken() {
			x := fresh(t)
			sources := []string{step(1), step(2), step(4)}
			sources[at] = source
			ids := x.row(t, sources...)
			for i, id := range ids {
				if i >= at {
					noHistory(t, source, x.Store, id, want)
					continue
				}
				rows, e := History(x.Store, id)
				ok(t, "ahead of "+source, e)
				same(t, "rows", len(rows), i+1)
			}
		}
	}
	x := fresh(t)
	ids := x.row(t, "test", "test t { assert a; }", "?", step(1))
	noHistory(t, "behind three that are broken", x.Store, ids[3], api.ErrLex)
	noHistory(t, "the second", x.Store, ids[1], api.ErrKnown)
	noHistory(t, "the first", x.Store, ids[0], api.ErrParse)
}

// Rule R2: what is answered is the caller's own.
func TestHistoryIsOwn(t *testing.T) {
	x := fresh(t)
	ids := x.row(t, step(1), step(2))
	want := []api.Row{rowOf(t, ids[1], step(2)), rowOf(t, ids[0], step(1))}
	rows, e := History(x.Store, ids[1])
	ok(t, "History", e)
	clear(rows)
	histories(t, "behind a change of an answer", x, ids[1], want...)
}
