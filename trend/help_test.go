package trend

import (
	"maps"
	"math/rand"
	"reflect"
	"slices"
	"strconv"
	"strings"
	"testing"

	"cupel/api"
	"cupel/cas"
	"cupel/disk"
	"cupel/kill"
	"cupel/store"
)

// increment is the document's program: two mutants, both killed.
const increment = "func f(a int) int { return a + 1; } test t { assert f(1) == 2; }"

func same[T comparable](t *testing.T, what string, got, want T) {
	t.Helper()
	if got != want {
		t.Errorf("%s: %#v, not %#v", what, got, want)
	}
}

// ok tells that a call answered no error.
func ok(t *testing.T, what string, e api.Errno) {
	t.Helper()
	if e != api.OK {
		t.Fatalf("%s: %d", what, e)
	}
}

// short is a text that may be told of a failure.
func short(s string) string {
	if len(s) > 600 {
		s = s[:300] + " .. " + s[len(s)-300:]
	}
	return strconv.Quote(s)
}

func chance(seed int64) *rand.Rand { return rand.New(rand.NewSource(seed)) }

// shelf is a store for commits and verdicts, and what lies below it.
type shelf struct {
	*cas.Store
	raw  *store.Store
	disk *disk.Disk
}

// opened is the shelf of a disk that opens.
func opened(t *testing.T, d *disk.Disk) shelf {
	t.Helper()
	s, e := store.Open(d)
	ok(t, "Open", e)
	c, e := cas.New(s)
	ok(t, "cas.New", e)
	return shelf{c, s, d}
}

// fresh is a shelf on an empty disk.
func fresh(t *testing.T) shelf {
	t.Helper()
	return opened(t, disk.New())
}

// again is a shelf whose power failed, and came again.
func (x shelf) again(t *testing.T) shelf {
	t.Helper()
	x.disk.Crash(0, 0)
	x.disk.Plan(nil)
	x.disk.Up()
	return opened(t, x.disk)
}

// fill leaves the disk no room; free gives it any.
func (x shelf) fill() { x.disk.Room(x.disk.Used()) }
func (x shelf) free() { x.disk.Room(-1) }

// add adds a commit: its ID.
func (x shelf) add(t *testing.T, source, parent string) string {
	t.Helper()
	commit, e := x.Add(source, parent)
	ok(t, "Add", e)
	return commit.ID
}

// row adds commits, each behind the one ahead of it: their IDs.
func (x shelf) row(t *testing.T, sources ...string) []string {
	t.Helper()
	var ids []string
	last := ""
	for _, source := range sources {
		last = x.add(t, source, last)
		ids = append(ids, last)
	}
	return ids
}

// force puts a pair right into the store, past all rules.
func (x shelf) force(t *testing.T, key, value string) {
	t.Helper()
	ok(t, "Apply", x.raw.Apply([]api.Change{{Key: key, Value: value}}))
}

// pairs is all that the store has.
func (x shelf) pairs() map[string]string { return maps.Collect(x.raw.All("")) }

// programs is the pairs that are no verdicts.
func (x shelf) programs() map[string]string {
	all := x.pairs()
	maps.DeleteFunc(all, func(key, _ string) bool { return key[0] == 'v' })
	return all
}

// untouched holds that what is called lays nothing, not a byte.
func (x shelf) untouched(t *testing.T, what string, call func()) {
	t.Helper()
	changes, pairs := x.disk.Changes(), x.pairs()
	call()
	same(t, what+": changes of the disk", x.disk.Changes(), changes)
	if !maps.Equal(x.pairs(), pairs) {
		t.Errorf("%s: the store is not what it was", what)
	}
}

// checked is the program of a text, with its types.
func checked(t *testing.T, s string) api.Node {
	t.Helper()
	p, at, e := kill.Source(s)
	if e != api.OK {
		t.Fatalf("%s may not be: place %d, error %d", short(s), at, e)
	}
	return p
}

// rowOf is what a text comes to by the definition, counted a second time.
func rowOf(t *testing.T, id, source string) api.Row {
	t.Helper()
	m, e := kill.Matrix(checked(t, source), 2000)
	ok(t, "the definition", e)
	row := api.Row{ID: id, Mutants: len(m.Mutants)}
	for _, cells := range m.Cells {
		if slices.ContainsFunc(cells, func(n int) bool { return n > 1 }) {
			row.Killed++
		} else {
			row.Left++
		}
	}
	mutants, killed := kill.Count(m)
	if mutants != row.Mutants || killed != row.Killed {
		t.Fatalf("%s: %d and %d by kill.Count, %v by hand", short(source), mutants, killed, row)
	}
	return row
}

// counts holds a text's row against numbers.
func counts(t *testing.T, source string, mutants, killed, left int) {
	t.Helper()
	x := fresh(t)
	id := x.add(t, source, "")
	row, e := Row(x.Store, id)
	ok(t, "Row of "+source, e)
	same(t, source, row, api.Row{ID: id, Mutants: mutants, Killed: killed, Left: left})
	same(t, "by the definition: "+source, row, rowOf(t, id, source))
}

// histories holds a commit's history against rows, as they come.
func histories(t *testing.T, what string, x shelf, id string, want ...api.Row) {
	t.Helper()
	got, e := History(x.Store, id)
	ok(t, what+": History", e)
	if !slices.Equal(got, want) {
		t.Errorf("%s: %v, not %v", what, inWords(got), inWords(want))
	}
}

// inWords is rows without their digests' bytes.
func inWords(rows []api.Row) string {
	var words []string
	for _, r := range rows {
		id := strconv.QuoteToASCII(r.ID)
		words = append(words, id[:min(len(id), 12)]+" "+strconv.Itoa(r.Mutants)+" "+strconv.Itoa(r.Killed)+" "+strconv.Itoa(r.Left))
	}
	return strings.Join(words, "; ")
}

// selects holds the tests that are told to run again against names.
func selects(t *testing.T, what string, x shelf, id string, names ...string) {
	t.Helper()
	got, e := Select(x.Store, id)
	ok(t, what+": Select", e)
	if !slices.Equal(got, names) {
		t.Errorf("%s: %q, not %q", what, got, names)
	}
}

// programIs holds a commit's program against the tree of a text, types and all.
func programIs(t *testing.T, what string, x shelf, id, source string) {
	t.Helper()
	p, e := Program(x.Store, id)
	ok(t, what+": Program", e)
	if !reflect.DeepEqual(p, checked(t, source)) {
		t.Errorf("%s: not the program of %s", what, short(source))
	}
}

// noProgram, noRow, noHistory and noSelect hold that a call answers an error, and nothing beside it.
func noProgram(t *testing.T, what string, c *cas.Store, id string, want api.Errno) {
	t.Helper()
	p, e := Program(c, id)
	same(t, what+": Program", e, want)
	if !reflect.DeepEqual(p, api.Node{}) {
		t.Errorf("%s: a program beside an error", what)
	}
}

func noRow(t *testing.T, what string, c *cas.Store, id string, want api.Errno) {
	t.Helper()
	row, e := Row(c, id)
	same(t, what+": Row", e, want)
	same(t, what+": the row beside an error", row, api.Row{})
}

func noHistory(t *testing.T, what string, c *cas.Store, id string, want api.Errno) {
	t.Helper()
	rows, e := History(c, id)
	same(t, what+": History", e, want)
	same(t, what+": rows beside an error", len(rows), 0)
}

func noSelect(t *testing.T, what string, c *cas.Store, id string, want api.Errno) {
	t.Helper()
	names, e := Select(c, id)
	same(t, what+": Select", e, want)
	same(t, what+": names beside an error", len(names), 0)
}

// nothing holds that no call answers anything of a commit but an error.
func nothing(t *testing.T, what string, c *cas.Store, id string, want api.Errno) {
	t.Helper()
	noProgram(t, what, c, id, want)
	noRow(t, what, c, id, want)
	noHistory(t, what, c, id, want)
	noSelect(t, what, c, id, want)
}

// broken is texts that are no programs that may be, each with its error.
func broken() map[string]api.Errno {
	deep := strings.Repeat("(", api.MaxDepth+1) + "1" + strings.Repeat(")", api.MaxDepth+1)
	return map[string]api.Errno{
		"func f() int { return 1 ? 2; }":                       api.ErrLex,
		"test t { x = ; }":                                     api.ErrParse,
		"test":                                                 api.ErrParse,
		"test t { assert " + deep + " == 1; }":                 api.ErrMany,
		strings.Repeat("test t { } ", api.MaxFuncs+1):          api.ErrMany,
		"test t { } test t { }":                                api.ErrTwice,
		"test t { assert a == 1; }":                            api.ErrKnown,
		"test t { assert 1; }":                                 api.ErrType,
		"func f() int { return 1; } test t { f(1); }":          api.ErrCount,
		"func f() int { skip; } test t { assert f() == 1; }":   api.ErrReturn,
		"func f() int { return 1.0; } test t { x = ; }":        api.ErrParse,
		"test t { assert b == 1; } test u { assert 1.0 == 1;}": api.ErrKnown,
	}
}

// Short words for nodes.

func tree(kind int, kids ...api.Node) api.Node { return api.Node{Kind: kind, Kids: kids} }

func named(kind int, s string, kids ...api.Node) api.Node {
	return api.Node{Kind: kind, S: s, Kids: kids}
}

func typed(kind, t int, s string, kids ...api.Node) api.Node {
	return api.Node{Kind: kind, T: t, S: s, Kids: kids}
}

func whole(n int64) api.Node { return api.Node{Kind: api.NodeInt, N: n} }

func truth(n int64) api.Node { return api.Node{Kind: api.NodeBool, N: n} }

func bin(a api.Node, s string, b api.Node) api.Node { return named(api.NodeBin, s, a, b) }

func block(kids ...api.Node) api.Node { return tree(api.NodeBlock, kids...) }

func program(declarations ...api.Node) api.Node { return tree(api.NodeProgram, declarations...) }
