package kill

import (
	"math"
	"math/rand"
	"reflect"
	"strconv"
	"strings"
	"testing"

	"cupel/api"
	"cupel/wire"
)

// count is a count's bytes, and text a text's, by hand.
func count(n int) string { return string([]byte{byte(n), byte(n >> 8), byte(n >> 16), byte(n >> 24)}) }

func text(s string) string { return count(len(s)) + s }

// put is a matrix's bytes; what was handed in stays.
func put(t *testing.T, m api.Matrix) string {
	t.Helper()
	was := full(m)
	w := wire.NewWriter()
	Put(w, m)
	if !reflect.DeepEqual(full(m), was) {
		t.Errorf("%v: what was handed in does not stay", m)
	}
	return w.All()
}

// bytesOf holds a matrix's bytes against written-out ones.
func bytesOf(t *testing.T, what string, m api.Matrix, want ...string) {
	t.Helper()
	if got, want := put(t, m), strings.Join(want, ""); got != want {
		t.Errorf("%s: the bytes %q, not %q", what, got, want)
	}
}

// takes tells that bytes are taken as a matrix, and nothing behind them.
func takes(t *testing.T, what, s string, want api.Matrix) {
	t.Helper()
	for _, behind := range []string{"", "x", "\x00\x00\x00\x00", "\xff\xff\xff\xff\xff"} {
		r := wire.NewReader("ab" + s + behind)
		r.Bytes(2)
		alike(t, what, Take(r), want)
		same(t, what+": the error", r.Err(), api.OK)
		same(t, what+": what was taken", r.At(), 2+len(s))
		same(t, what+": what is left", r.Left(), len(behind))
	}
}

// takesNone tells that bytes are refused, with nothing beside the error.
func takesNone(t *testing.T, what, s string, want api.Errno) {
	t.Helper()
	r := wire.NewReader(s)
	if m := Take(r); !reflect.DeepEqual(m, api.Matrix{}) {
		t.Errorf("%s: %v beside an error", what, m)
	}
	same(t, what+": the error", r.Err(), want)
	same(t, what+": what is left", r.Left(), 0)
}

// Promise 17.1: a matrix's bytes, by hand.
func TestBytes(t *testing.T) {
	sampleBytes := []string{
		"\x02\x00\x00\x00",
		"\x01\x00\x00\x00t", "\x01",
		"\x01\x00\x00\x00u", "\x02",
		"\x03\x00\x00\x00",
		"\x01\x00\x00\x00f", "\x04\x00\x00\x00", "\x00\x00\x00\x00", "\x02\x00",
		"\x01\x00\x00\x00f", "\x06\x00\x00\x00", "\x01\x00\x00\x00", "\x01\x00",
		"\x01\x00\x00\x00g", "\x03\x00\x00\x00", "\x02\x00\x00\x00", "\x06\x00",
	}
	bytesOf(t, "the sample", sample(), sampleBytes...)
	takes(t, "the sample", strings.Join(sampleBytes, ""), sample())

	bytesOf(t, "nothing", api.Matrix{}, count(0), count(0))
	takes(t, "nothing", count(0)+count(0), api.Matrix{})
	bytesOf(t, "empty lists", full(api.Matrix{}), count(0), count(0))

	tests := api.Matrix{Tests: []string{"", "tests", "long_name_16byte"}, Base: []int{0, 6, 255}}
	bytesOf(t, "tests alone", tests, count(3), text(""), "\x00", text("tests"), "\x06", text("long_name_16byte"), "\xff", count(0))
	takes(t, "tests alone", put(t, tests), tests)

	mutants := api.Matrix{Mutants: []api.Mutant{{Func: "long_name_16byte", Node: 0x7D0, Turn: 3}, {Func: "", Node: 258, Turn: 0}}, Cells: [][]int{nil, nil}}
	bytesOf(t, "mutants alone", mutants, count(0), count(2), text("long_name_16byte"), "\xd0\x07\x00\x00", count(3), text(""), "\x02\x01\x00\x00", count(0))
	takes(t, "mutants alone", put(t, mutants), mutants)

	m, e := Matrix(parsed(t, example), api.Fuel)
	same(t, "the example's error", e, api.OK)
	bytesOf(t, "the example", m, count(1), text("t"), "\x01", count(2), text("f"), count(4), count(0), "\x02", text("f"), count(6), count(0), "\x02")
}

// Promise 17.1: a matrix is put behind what a writer has, and what comes is put behind it.
func TestPutBehindOthers(t *testing.T) {
	w := wire.NewWriter()
	w.Text("ahead")
	Put(w, sample())
	Put(w, api.Matrix{})
	w.Bool(true)
	same(t, "the bytes", w.All(), text("ahead")+put(t, sample())+count(0)+count(0)+"\x01")
	r := wire.NewReader(w.All())
	same(t, "ahead", r.Text(5), "ahead")
	alike(t, "the first one", Take(r), sample())
	alike(t, "the second one", Take(r), api.Matrix{})
	same(t, "behind", r.Bool(), true)
	same(t, "the error", r.End(), api.OK)
}

// Promise 17.1: bytes that end too early, wherever they do.
func TestTakeOfCutBytes(t *testing.T) {
	for _, m := range []api.Matrix{sample(), grid([]int{1}), grid(nil, nil), {}, {Tests: []string{"t"}, Base: []int{1}}} {
		s := put(t, m)
		takes(t, "all", s, m)
		for i := range s {
			takesNone(t, "cut at "+strconv.Itoa(i), s[:i], api.ErrCut)
		}
	}
}

// wide is a matrix of so many tests and mutants.
func wide(tests, mutants int) api.Matrix {
	var m api.Matrix
	for i := range tests {
		m.Tests, m.Base = append(m.Tests, "t"+strconv.Itoa(i)), append(m.Base, i%7)
	}
	for i := range mutants {
		m.Mutants = append(m.Mutants, api.Mutant{Func: "f" + strconv.Itoa(i%5), Node: 4 + i, Turn: i % 2})
		m.Cells = append(m.Cells, make([]int, tests))
		for k := range tests {
			m.Cells[i][k] = (i + k) % 7
		}
	}
	return m
}

// Promise 17.1: at most MaxFuncs tests, and MaxSites mutants.
func TestTakeOfManyParts(t *testing.T) {
	for _, m := range []api.Matrix{wide(api.MaxFuncs, api.MaxSites), wide(api.MaxFuncs, 0), wide(0, api.MaxSites), wide(api.MaxFuncs, 1), wide(1, api.MaxSites)} {
		takes(t, "as many as may be", put(t, m), m)
	}
	for _, m := range []api.Matrix{wide(api.MaxFuncs+1, 0), wide(0, api.MaxSites+1), wide(api.MaxFuncs+1, 1), wide(1, api.MaxSites+1), wide(api.MaxFuncs+1, api.MaxSites+1), wide(256+1, 0), wide(0, 65536)} {
		takesNone(t, "one more", put(t, m), api.ErrMany)
	}
	for _, n := range []int{api.MaxFuncs + 1, 400, 401, 1 << 16, 1 << 24, math.MaxInt32, math.MaxUint32} {
		takesNone(t, "a count of tests", count(n), api.ErrMany)
		takesNone(t, "a count of tests", count(n)+strings.Repeat("\x00", 100000), api.ErrMany)
	}
	for _, n := range []int{api.MaxSites + 1, 1 << 16, 1 << 24, math.MaxInt32, math.MaxUint32} {
		takesNone(t, "a count of mutants", count(0)+count(n), api.ErrMany)
		takesNone(t, "a count of mutants", count(1)+text("t")+"\x01"+count(n)+strings.Repeat("\x00", 100000), api.ErrMany)
	}
}

// Promise 17.1: places up to MaxNodes, and turns up to 3.
func TestTakeOfGreatPlacesAndTurns(t *testing.T) {
	for _, place := range []int{0, 1, 255, 256, api.MaxNodes - 1, api.MaxNodes} {
		for turn := range 4 {
			m := grid([]int{1, 2}, []int{3, 4}, []int{5, 6})
			m.Mutants[1].Node, m.Mutants[1].Turn = place, turn
			takes(t, "a place and a turn", put(t, m), m)
		}
	}
	for _, n := range []int{api.MaxNodes + 1, 1 << 16, 1 << 24, math.MaxInt32, math.MaxUint32} {
		for i := range 3 {
			m := grid([]int{1, 2}, []int{3, 4}, []int{5, 6})
			m.Mutants[i].Node = n
			takesNone(t, "a place", put(t, m), api.ErrMany)
		}
	}
	for _, n := range []int{4, 5, 256, 257, 1 << 16, math.MaxUint32} {
		for i := range 3 {
			m := grid([]int{1, 2}, []int{3, 4}, []int{5, 6})
			m.Mutants[i].Turn = n
			takesNone(t, "a turn", put(t, m), api.ErrMany)
		}
	}
}

// Promise 17.1 with the limits of package api: a name has at most MaxName bytes.
func TestTakeOfLongNames(t *testing.T) {
	name := strings.Repeat("n", api.MaxName)
	m := sample()
	m.Tests[1], m.Mutants[2].Func = name, name
	takes(t, "as long as may be", put(t, m), m)
	for _, long := range []string{name + "n", strings.Repeat("n", 256+4), strings.Repeat("n", 100000)} {
		m := sample()
		m.Tests[1] = long
		takesNone(t, "a test's name", put(t, m), api.ErrMany)
		m = sample()
		m.Mutants[2].Func = long
		takesNone(t, "a function's name", put(t, m), api.ErrMany)
	}
}

// Promise 17.1: the first error is told: of two that apply the one that stands ahead.
func TestTakeTellsTheFirstError(t *testing.T) {
	takesNone(t, "a place, then the end", count(0)+count(1)+text("f")+count(api.MaxNodes+1), api.ErrMany)
	takesNone(t, "the end ahead of a turn", count(0)+count(1)+text("f")+count(api.MaxNodes)+"\xff\xff\xff", api.ErrCut)
	takesNone(t, "a name that ends", count(2)+count(5)+"abcd", api.ErrCut)
}

// Promise 17.1: a byte each is how a test ends, whatever it is.
func TestTakeOfAnyEnds(t *testing.T) {
	for end := range 256 {
		m := grid([]int{end, 1}, []int{0, 255 - end})
		m.Base[0], m.Base[1] = 255-end, end
		takes(t, "ends", put(t, m), m)
	}
}

// Promise 17.1: a reader that has an error already, and none at all.
func TestTakeOfAnEndedReader(t *testing.T) {
	for _, e := range []api.Errno{api.ErrArg, api.ErrForm, api.ErrMore, 77} {
		r := wire.NewReader(put(t, sample()))
		r.Fail(e)
		if m := Take(r); !reflect.DeepEqual(m, api.Matrix{}) {
			t.Errorf("%v of a reader that has an error", m)
		}
		same(t, "the error stays", r.Err(), e)
		same(t, "nothing was taken", r.At(), 0)
	}
	if m := Take(nil); !reflect.DeepEqual(m, api.Matrix{}) {
		t.Errorf("%v of no reader", m)
	}
	Put(nil, sample())
	Put(nil, api.Matrix{})
}

// Rule R1: of matrices whose lists do not fit the bytes are those of ones that do: with 0 for what is not there, without what is too much.
func TestPutOfAnyMatrix(t *testing.T) {
	m := sample()
	m.Base, m.Cells = m.Base[:1], [][]int{{2}, {1, 0, 5, 5}}
	fitting := sample()
	fitting.Base, fitting.Cells = []int{1, 0}, [][]int{{2, 0}, {1, 0}, {0, 0}}
	same(t, "too little and too much", put(t, m), put(t, fitting))
	takes(t, "too little and too much", put(t, m), fitting)

	m = sample()
	m.Base, m.Cells = append(m.Base, 5, 5), append(m.Cells, []int{5, 5})
	same(t, "too much", put(t, m), put(t, sample()))
	bytesOf(t, "cells alone", api.Matrix{Base: []int{1}, Cells: [][]int{{1}, {2}}}, count(0), count(0))
	bytesOf(t, "no ends", api.Matrix{Tests: []string{"t"}, Mutants: []api.Mutant{{Func: "f"}}}, count(1), text("t"), "\x00", count(1), text("f"), count(0), count(0), "\x00")
}

// Promise 17.1: of a number that has no such bytes the lowest ones are put, as layer 2 has it, and none below 0 as a count.
func TestPutOfAnyNumbers(t *testing.T) {
	m := grid([]int{-1}, []int{256 + 7})
	m.Base[0] = -2
	m.Mutants[0], m.Mutants[1] = api.Mutant{Func: "f", Node: -1, Turn: -5}, api.Mutant{Func: "f", Node: 1<<32 + 9, Turn: math.MinInt}
	bytesOf(t, "numbers", m, count(1), text("ta"), "\xfe", count(2), text("f"), count(0), count(0), "\xff", text("f"), count(9), count(0), "\x07")
}

// chance is a source of numbers that are the same each time.
func chance(seed int64) *rand.Rand { return rand.New(rand.NewSource(seed)) }

// anyMatrix is a matrix whose lists fit, and whose numbers have their bytes.
func anyMatrix(rnd *rand.Rand) api.Matrix {
	m := wide(rnd.Intn(6), rnd.Intn(9))
	for i := range m.Tests {
		m.Base[i] = rnd.Intn(7)
		m.Tests[i] = strings.Repeat(string(rune('a'+rnd.Intn(26))), rnd.Intn(api.MaxName+1))
	}
	for i := range m.Mutants {
		m.Mutants[i] = api.Mutant{Func: "f" + strconv.Itoa(rnd.Intn(1e6)), Node: rnd.Intn(api.MaxNodes + 1), Turn: rnd.Intn(4)}
		quiet := rnd.Intn(2) == 0
		for k := range m.Cells[i] {
			if m.Cells[i][k] = rnd.Intn(7); quiet {
				m.Cells[i][k] %= 2
			}
		}
	}
	return m
}

// Promise 17.1: what was put is taken again, by chance; with a byte otherwise, too, if it may be taken at all.
func TestBytesByChance(t *testing.T) {
	rnd := chance(4)
	tally := map[api.Errno]int{}
	for range 400 {
		m := anyMatrix(rnd)
		s := put(t, m)
		takes(t, "a chance matrix", s, m)
		for range 10 {
			spoilt := []byte(s)
			spoilt[rnd.Intn(len(s))] ^= byte(1 << rnd.Intn(8))
			r := wire.NewReader(string(spoilt))
			got := Take(r)
			tally[r.Err()]++
			if r.Err() == api.OK {
				same(t, "what was taken is put again", put(t, got), string(spoilt[:r.At()]))
				same(t, "and no more than may be", len(got.Tests) <= api.MaxFuncs && len(got.Mutants) <= api.MaxSites, true)
			} else if !reflect.DeepEqual(got, api.Matrix{}) {
				t.Errorf("%v beside the error %d", got, r.Err())
			}
		}
	}
	for _, e := range []api.Errno{api.OK, api.ErrCut, api.ErrMany} {
		if tally[e] < 50 {
			t.Errorf("too few of a sort: %v", tally)
		}
	}
}

// Rule R2: what is taken is the caller's own, and so is each of its lists.
func TestTakeIsTheCallersOwn(t *testing.T) {
	s := put(t, sample())
	m := Take(wire.NewReader(s))
	for i := range m.Cells {
		row := m.Cells[i][:cap(m.Cells[i])]
		for k := range row {
			row[k] = 100 + i
		}
	}
	for i := range m.Cells {
		same(t, "a row", m.Cells[i][0], 100+i)
		same(t, "a row", m.Cells[i][1], 100+i)
	}
	m.Tests[0], m.Base[0], m.Mutants[0].Func = "spoilt", 9, "spoilt"
	takes(t, "another one", s, sample())
}

// Any bytes are taken or refused.
func FuzzTake(f *testing.F) {
	w := wire.NewWriter()
	Put(w, sample())
	f.Add(w.All())
	f.Add("")
	f.Add(strings.Repeat("\x00", 100))
	f.Add(strings.Repeat("\xff", 100))
	f.Fuzz(func(t *testing.T, s string) {
		r := wire.NewReader(s)
		m := Take(r)
		if r.Err() != api.OK {
			if !reflect.DeepEqual(m, api.Matrix{}) {
				t.Errorf("%v beside an error", m)
			}
			return
		}
		same(t, "put again", put(t, m), s[:r.At()])
	})
}
