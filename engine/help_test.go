package engine

import (
	"crypto/sha3"
	"encoding/binary"
	"math/rand"
	"reflect"
	"strconv"
	"strings"
	"testing"

	"cupel/api"
	"cupel/ast"
	"cupel/cas"
	"cupel/disk"
	"cupel/kill"
	"cupel/mutate"
	"cupel/parse"
	"cupel/store"
)

func same[T comparable](t *testing.T, what string, got, want T) {
	t.Helper()
	if got != want {
		t.Errorf("%s: %#v, not %#v", what, got, want) // keys are told in quotes
	}
}

// ok tells that a call answered no error.
func ok(t *testing.T, what string, e api.Errno) {
	t.Helper()
	if e != api.OK {
		t.Fatalf("%s: %d", what, e)
	}
}

// short is a text that may be told of a failure.
func short(s string) string {
	if len(s) > 600 {
		s = s[:300] + " .. " + s[len(s)-300:]
	}
	return strconv.Quote(s)
}

func chance(seed int64) *rand.Rand { return rand.New(rand.NewSource(seed)) }

// shelf is a store for verdicts, and the disk below it.
type shelf struct {
	*cas.Store
	disk *disk.Disk
}

// opened is the shelf of a disk that opens.
func opened(t *testing.T, d *disk.Disk) shelf {
	t.Helper()
	s, e := store.Open(d)
	ok(t, "Open", e)
	c, e := cas.New(s)
	ok(t, "cas.New", e)
	return shelf{c, d}
}

// fresh is a shelf on an empty disk.
func fresh(t *testing.T) shelf {
	t.Helper()
	return opened(t, disk.New())
}

// again is a shelf whose power failed, and came again.
func (x shelf) again(t *testing.T) shelf {
	t.Helper()
	x.disk.Crash(0, 0)
	x.disk.Up()
	return opened(t, x.disk)
}

// fill leaves the disk no room; free gives it any.
func (x shelf) fill() { x.disk.Room(x.disk.Used()) }
func (x shelf) free() { x.disk.Room(-1) }

// keep keeps a verdict.
func (x shelf) keep(t *testing.T, key string, verdict int) {
	t.Helper()
	ok(t, "Keep", x.Keep([]string{key}, []int{verdict}))
}

// parsed is the tree of a text, which need not be accepted.
func parsed(t *testing.T, s string) api.Node {
	t.Helper()
	n, at, e := parse.Program(s)
	if e != api.OK {
		t.Fatalf("%s is no text: place %d, error %d", short(s), at, e)
	}
	return n
}

// checked is the program of a text, with its types.
func checked(t *testing.T, s string) api.Node {
	t.Helper()
	p, at, e := kill.Source(s)
	if e != api.OK {
		t.Fatalf("%s may not be: place %d, error %d", short(s), at, e)
	}
	return p
}

// mutant is the program of a mutant, which must be there.
func mutant(t *testing.T, p api.Node, f string, node, turn int) api.Node {
	t.Helper()
	other, e := mutate.Apply(p, api.Mutant{Func: f, Node: node, Turn: turn})
	ok(t, "a mutant", e)
	return other
}

// defined is a program's matrix by the definition.
func defined(t *testing.T, p api.Node) api.Matrix {
	t.Helper()
	m, e := kill.Matrix(p, api.Fuel)
	ok(t, "the definition", e)
	return m
}

// begun is a matrix that is begun; what was handed in stays.
func begun(t *testing.T, c *cas.Store, p api.Node) *Work {
	t.Helper()
	was := ast.Clone(p)
	w, e := New(c, p)
	ok(t, "New", e)
	stays(t, p, was)
	return w
}

// stays tells that a tree is what it was.
func stays(t *testing.T, p, was api.Node) {
	t.Helper()
	if !reflect.DeepEqual(ast.Clone(p), was) {
		t.Errorf("%s: what was handed in does not stay", short(ast.Print(was)))
	}
}

// trace takes a matrix's steps to the end, all without an error: r for each cell that was run, k for one that was kept, p for one that was passed over, - for another one.
func trace(t *testing.T, w *Work) string {
	t.Helper()
	var line strings.Builder
	for i := range w.Total() {
		same(t, "cells that were found", w.At(), i)
		same(t, "whether it is done", w.Done(), false)
		line.WriteString(step(t, w))
	}
	same(t, "cells that were found", w.At(), w.Total())
	same(t, "whether it is done", w.Done(), true)
	return line.String()
}

// step takes one step, without an error, and tells by Stats how its cell was found.
func step(t *testing.T, w *Work) string {
	t.Helper()
	before := w.Stats()
	ok(t, "Step", w.Step())
	after := w.Stats()
	switch (api.Stats{Run: after.Run - before.Run, Kept: after.Kept - before.Kept, Passed: after.Passed - before.Passed}) {
	case api.Stats{Run: 1}:
		return "r"
	case api.Stats{Kept: 1}:
		return "k"
	case api.Stats{Passed: 1}:
		return "p"
	case api.Stats{}:
		return "-"
	}
	t.Fatalf("a step from %v to %v", before, after)
	return ""
}

// told is a matrix in words that tell all of it: its tests with their base, each mutant with its cells.
func told(m api.Matrix) string {
	var lines []string
	line := ""
	for i, name := range m.Tests {
		line += name + "=" + strconv.Itoa(m.Base[i]) + " "
	}
	lines = append(lines, strings.TrimSpace(line))
	for i, x := range m.Mutants {
		line := x.Func + "." + strconv.Itoa(x.Node) + "." + strconv.Itoa(x.Turn) + ":"
		for _, cell := range m.Cells[i] {
			line += " " + strconv.Itoa(cell)
		}
		lines = append(lines, line)
	}
	if len(m.Base) != len(m.Tests) || len(m.Cells) != len(m.Mutants) {
		lines = append(lines, "lists do not fit")
	}
	return strings.Join(lines, "\n")
}

// tells holds a matrix, all of whose cells were found, against lines.
func tells(t *testing.T, what string, w *Work, lines ...string) {
	t.Helper()
	m, all := w.Matrix()
	same(t, what+": whether all was found", all, true)
	same(t, what, told(m), strings.Join(lines, "\n"))
}

// tellsNone tells that a matrix is not told.
func tellsNone(t *testing.T, what string, w *Work) {
	t.Helper()
	m, all := w.Matrix()
	same(t, what+": whether all was found", all, false)
	if !reflect.DeepEqual(m, api.Matrix{}) {
		t.Errorf("%s: %v, though not all was found", what, m)
	}
}

// alike tells that two matrices are the same, by layer 17 and by all their lists.
func alike(t *testing.T, what string, got, want api.Matrix) {
	t.Helper()
	if !kill.Same(got, want) || told(got) != told(want) {
		t.Errorf("%s:\n%s\nnot\n%s", what, told(got), told(want))
	}
}

// digest is that of parts for a purpose, by the library.
func digest(purpose byte, parts ...string) string {
	var b []byte
	for _, s := range parts {
		b = binary.LittleEndian.AppendUint64(append(b, s...), uint64(len(s)))
	}
	d := sha3.Sum256(append(b, purpose))
	return string(d[:])
}

// sumOf is a program's text with so many mutants, to all of which its test comes, and which are unlike; each one is killed.
func sumOf(mutants int) string {
	terms := []string{}
	for range (mutants + 1) / 2 {
		terms = append(terms, "1") // with its sign two mutants, the first one has no sign
	}
	sum := len(terms)
	if mutants%2 == 0 {
		terms[0], sum = "2", sum+1 // one more
	}
	return "func f() int { return " + strings.Join(terms, " + ") + "; } test t { assert f() == " + strconv.Itoa(sum) + "; }"
}

// Short words for nodes.

func tree(kind int, kids ...api.Node) api.Node { return api.Node{Kind: kind, Kids: kids} }

func named(kind int, s string, kids ...api.Node) api.Node {
	return api.Node{Kind: kind, S: s, Kids: kids}
}

func typed(kind, t int, s string, kids ...api.Node) api.Node {
	return api.Node{Kind: kind, T: t, S: s, Kids: kids}
}

func whole(n int64) api.Node { return api.Node{Kind: api.NodeInt, N: n} }

func truth(n int64) api.Node { return api.Node{Kind: api.NodeBool, N: n} }

func bin(a api.Node, s string, b api.Node) api.Node { return named(api.NodeBin, s, a, b) }

func block(kids ...api.Node) api.Node { return tree(api.NodeBlock, kids...) }

func program(declarations ...api.Node) api.Node { return tree(api.NodeProgram, declarations...) }
