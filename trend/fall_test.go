package trend

import (
	"fmt"
	"strings"
	"testing"

	"cupel/api"
)

// wide is a program of so many functions with two mutants each, all of which its test kills.
func wide(functions int) string {
	var s, sum strings.Builder
	for i := range functions {
		fmt.Fprintf(&s, "func f%d(a int) int { return a + 1; } ", i)
		fmt.Fprintf(&sum, "assert f%d(1) == 2; ", i)
	}
	return s.String() + "test t { " + sum.String() + "}"
}

// Promises 18.1 and 19.1: a disk without room: what must be kept can't be: its error; what is kept already, or asks for no run, is told.
func TestNoRoom(t *testing.T) {
	x := fresh(t)
	ids := x.row(t, "test t { }", increment, "func g() int { return 1; } "+increment, wide(10))
	x.fill()
	programIs(t, "no room", x, ids[1], increment)
	selects(t, "no room", x, ids[3], "t")
	histories(t, "no room, and nothing to run", x, ids[0], rowOf(t, ids[0], "test t { }"))
	for range 2 {
		for _, id := range ids[1:] {
			noRow(t, "no room", x.Store, id, api.ErrFull)
			noHistory(t, "no room", x.Store, id, api.ErrFull)
		}
	}
	same(t, "verdicts", len(x.Verdicts()), 0)
	x.free()
	first := []api.Row{rowOf(t, ids[1], increment), rowOf(t, ids[0], "test t { }")}
	histories(t, "room again", x, ids[1], first...)
	x.fill()
	histories(t, "no room, but kept", x, ids[1], first...)
	noHistory(t, "no room for all", x.Store, ids[3], api.ErrFull)
	row, e := Row(x.Store, ids[2])
	ok(t, "Row by what another program's tests came to", e)
	same(t, "the row", row, api.Row{ID: ids[2], Mutants: 3, Killed: 2, Left: 1})
	x.free()
	row, e = Row(x.Store, ids[3])
	ok(t, "Row", e)
	same(t, "the row", row, api.Row{ID: ids[3], Mutants: 20, Killed: 20})
}

// Promise 19.1: the error of the last commit's matrix goes ahead of those of commits ahead of it.
func TestNoRoomAndBroken(t *testing.T) {
	x := fresh(t)
	ids := x.row(t, "?", increment)
	x.fill()
	noHistory(t, "no room for the last", x.Store, ids[1], api.ErrFull)
	noHistory(t, "the first", x.Store, ids[0], api.ErrLex)
	x.free()
	noHistory(t, "the first behind the last", x.Store, ids[1], api.ErrLex)
	x.fill()
	noHistory(t, "the first behind the last, which is kept", x.Store, ids[1], api.ErrLex)
}

// Promise 19.1: a dead disk: ErrDead where a matrix's verdicts must be kept; the store still tells what it has.
func TestDeadDisk(t *testing.T) {
	x := fresh(t)
	ids := x.row(t, increment, wide(3))
	_, e := Row(x.Store, ids[0])
	ok(t, "Row", e)
	x.disk.Crash(0, 0)
	for range 2 {
		noRow(t, "a dead disk", x.Store, ids[1], api.ErrDead)
		noHistory(t, "a dead disk", x.Store, ids[1], api.ErrDead)
		histories(t, "a dead disk, but kept", x, ids[0], rowOf(t, ids[0], increment))
		programIs(t, "a dead disk", x, ids[1], wide(3))
		selects(t, "a dead disk", x, ids[1], "t")
		noProgram(t, "a dead disk", x.Store, "none", api.ErrCommit)
	}
	x = x.again(t)
	histories(t, "power again", x, ids[1], rowOf(t, ids[1], wide(3)), rowOf(t, ids[0], increment))
}

// Promises T2 and 19.1: the power fails at each change of the disk while a history is found, with any of what is loose kept or torn: ErrDead and no rows; behind that it is told.
func TestFalls(t *testing.T) {
	build := func() (shelf, []string) {
		x := fresh(t)
		return x, x.row(t, wide(10), increment, strings.Replace(wide(9), "func f0", "var z int = 1; func f0", 1))
	}
	x, ids := build()
	first := x.disk.Changes()
	var want []api.Row
	for i, source := range []string{strings.Replace(wide(9), "func f0", "var z int = 1; func f0", 1), increment, wide(10)} {
		want = append(want, rowOf(t, ids[2-i], source))
	}
	histories(t, "no fall", x, ids[2], want...)
	changes := x.disk.Changes() - first
	if changes < 5 {
		t.Errorf("%d changes of the disk", changes)
	}
	for at := range changes {
		for keep := range 2 {
			for _, torn := range []int{0, 1, 200, 1 << 20} {
				x, ids := build()
				x.disk.Plan([]api.Fall{{At: first + at, Keep: keep, Torn: torn}})
				noHistory(t, "a fall", x.Store, ids[2], api.ErrDead)
				noRow(t, "behind it", x.Store, ids[0], api.ErrDead)
				x = x.again(t)
				histories(t, fmt.Sprint("behind a fall at ", at), x, ids[2], want...)
				same(t, "verdicts", len(x.Verdicts()), 40)
			}
		}
	}
}
