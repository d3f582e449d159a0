package trend

import (
	"math"
	"slices"
	"testing"

	"cupel/api"
)

// left is rows with so many mutants left; all else differs, and does not count.
func left(l ...int) []api.Row {
	var rows []api.Row
	for i, n := range l {
		rows = append(rows, api.Row{ID: string(rune('a' + i)), Mutants: 100 * i, Killed: 31 * i, Left: n})
	}
	return rows
}

// Promise 19.1: Trend: from each row to the one behind it how many more are left, the last one first.
func TestTrend(t *testing.T) {
	for _, x := range []struct{ left, more []int }{
		{[]int{3, 5, 5}, []int{-2, 0}}, // the document's example
		{nil, nil},
		{[]int{0}, nil},
		{[]int{400}, nil},
		{[]int{0, 0}, []int{0}},
		{[]int{5, 3}, []int{2}},
		{[]int{3, 5}, []int{-2}},
		{[]int{400, 0}, []int{400}},
		{[]int{0, 400}, []int{-400}},
		{[]int{1, 2, 4, 8, 16}, []int{-1, -2, -4, -8}},
		{[]int{16, 8, 4, 2, 1}, []int{8, 4, 2, 1}},
		{[]int{7, 0, 7, 1}, []int{7, -7, 6}},
		{[]int{-3, 5, -5}, []int{-8, 10}},
		{[]int{math.MaxInt, 1, math.MinInt + 2}, []int{math.MaxInt - 1, math.MaxInt}},
	} {
		rows := left(x.left...)
		was := slices.Clone(rows)
		if got := Trend(rows); !slices.Equal(got, x.more) {
			t.Errorf("of %v: %v, not %v", x.left, got, x.more)
		}
		if !slices.Equal(rows, was) {
			t.Errorf("of %v: the rows that were handed in do not stay", x.left)
		}
	}
}

// Rules R1 and R2: any rows, as many as may be and more; the answer is the caller's.
func TestTrendOfMany(t *testing.T) {
	rnd := chance(1)
	for n := range 200 {
		rows := make([]api.Row, n)
		for i := range rows {
			rows[i].Left = int(rnd.Uint64()) // a difference may be no number that there is: it wraps
		}
		more := Trend(rows)
		same(t, "numbers", len(more), max(n-1, 0))
		for i := range more {
			same(t, "a number", more[i], rows[i].Left-rows[i+1].Left)
		}
		kept := slices.Clone(more)
		clear(rows)
		if !slices.Equal(more, kept) {
			t.Errorf("%d rows: what was answered hangs on what was handed in", n)
		}
	}
	if got := Trend(make([]api.Row, 100000)); len(got) != 99999 || slices.Max(got) != 0 {
		t.Errorf("of 100000 rows %d numbers", len(got))
	}
}
