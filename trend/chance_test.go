package trend

import (
	"fmt"
	"math"
	"math/rand"
	"slices"
	"strconv"
	"testing"

	"cupel/api"
	"cupel/ast"
	"cupel/graph"
	"cupel/kill"
	"cupel/mutate"
)

// sharpened is a chance program with some tests more, which hold what functions answer against just that, so that mutants of these are killed. It has at most so many mutants, and its text is short enough.
func sharpened(rnd *rand.Rand, most int) api.Node {
	for {
		m := maker{rnd: rnd}
		p := m.program()
		if n := len(mutate.List(p)); n == 0 || n > most {
			continue
		}
		m.known, m.read, m.called = nil, nil, m.functions
		for i := range 3 {
			call := m.call(m.functions[rnd.Intn(len(m.functions))], 1)
			f, _ := ast.Find(p, call.S)
			if claim, is := claimOf(p, f.T, call); is {
				p.Kids = append(p.Kids, named(api.NodeTest, "sharp"+strconv.Itoa(i), block(tree(api.NodeAssert, claim))))
			}
		}
		if accepted(p) {
			return p
		}
	}
}

// accepted tells whether the text of a tree is a program that may be.
func accepted(p api.Node) bool {
	_, _, e := kill.Source(ast.Print(p))
	return e == api.OK
}

// claimOf is an assertion that tells a call's value; none, if it has none.
func claimOf(p api.Node, t int, call api.Node) (api.Node, bool) {
	var list []api.Node
	switch t {
	case api.TypeBool:
		list = []api.Node{call, named(api.NodeUnary, "!", call)}
	case api.TypeFloat:
		list = []api.Node{bin(call, "!=", call), bin(call, "==", ast.Float("0.0")), bin(call, ">", ast.Float("0.0")), bin(call, "<", ast.Float("0.0"))}
	case api.TypeInt:
		list = []api.Node{bin(call, "==", nearest(p, call))}
	}
	for _, claim := range list {
		if holds(p, claim) {
			return claim, true
		}
	}
	return api.Node{}, false
}

// nearest is a literal, perhaps with a sign, that is a whole number's value, if it has one.
func nearest(p api.Node, call api.Node) api.Node {
	literal := func(n int64) api.Node {
		if n < 0 {
			return named(api.NodeUnary, "-", whole(-n))
		}
		return whole(n)
	}
	low, above := int64(math.MinInt64+1), int64(math.MaxInt64)
	for low < above {
		middle := low/2 + above/2 + (low%2+above%2)/2
		if middle == above {
			middle-- // the halves are cut towards nought
		}
		if holds(p, bin(call, ">", literal(middle))) {
			low = middle + 1
		} else {
			above = middle
		}
	}
	return literal(low)
}

// holds tells whether an assertion holds in a program.
func holds(p api.Node, claim api.Node) bool {
	p = ast.Clone(p)
	p.Kids = append(p.Kids, named(api.NodeTest, "probe", block(tree(api.NodeAssert, claim))))
	return kill.Outcome(p, "probe", api.Fuel) == api.Pass
}

// kin is a program that has much of another one: one of its mutants, with tests more, tests fewer, or all elsewhere.
func kin(rnd *rand.Rand, p api.Node) api.Node {
	list := mutate.List(p)
	if len(list) > 0 && rnd.Intn(3) > 0 {
		p, _ = mutate.Apply(p, list[rnd.Intn(len(list))])
	}
	p = ast.Clone(p)
	switch rnd.Intn(4) {
	case 0:
		rnd.Shuffle(len(p.Kids), func(i, j int) { p.Kids[i], p.Kids[j] = p.Kids[j], p.Kids[i] })
	case 1:
		i := slices.IndexFunc(p.Kids, func(d api.Node) bool { return d.Kind == api.NodeTest })
		if i >= 0 {
			p.Kids = slices.Delete(p.Kids, i, i+1)
		}
	case 2:
		tests := ast.Names(p, api.NodeTest)
		if len(tests) > 0 {
			d, _ := ast.Find(p, tests[rnd.Intn(len(tests))])
			if _, twice := ast.Find(p, "more"); !twice {
				d.S = "more"
				p.Kids = append(p.Kids, d)
			}
		}
	}
	return p
}

// Promise 19.1: Row: chance programs, held against kill.Matrix and kill.Count.
func TestRowsByChance(t *testing.T) {
	rnd := chance(3)
	x := fresh(t)
	all := api.Row{}
	for range 40 {
		source := ast.Print(sharpened(rnd, 200))
		id := x.add(t, source, "")
		want := rowOf(t, id, source)
		for range 2 {
			row, e := Row(x.Store, id)
			ok(t, short(source), e)
			same(t, short(source), row, want)
		}
		all.Mutants, all.Killed, all.Left = all.Mutants+want.Mutants, all.Killed+want.Killed, all.Left+want.Left
	}
	if all.Killed < 100 || all.Left < 1000 {
		t.Errorf("too few of a sort: %v", all)
	}
}

// member is a commit of a family, as the chapter's words have it.
type member struct {
	id, source string
	err        api.Errno // its source's
	p          api.Node
	row        api.Row
	parent     int // its place in the family; below 0: none
}

// family is commits, each behind one that is there, or none.
type family struct {
	shelf
	rnd     *rand.Rand
	members []member
	ends    map[string]int // how often each sort of answer was told
}

// grow adds a commit, which need be no program.
func (f *family) grow(t *testing.T) {
	t.Helper()
	m := member{parent: f.rnd.Intn(len(f.members)+1) - 1}
	id := ""
	if m.parent >= 0 {
		id = f.members[m.parent].id
	}
	m.source = f.text(m.parent)
	m.id = f.add(t, m.source, id)
	if slices.ContainsFunc(f.members, func(other member) bool { return other.id == m.id }) {
		return
	}
	if m.p, _, m.err = kill.Source(m.source); m.err == api.OK {
		m.row = rowOf(t, m.id, m.source)
	}
	f.members = append(f.members, m)
}

// text is a text for a commit behind another one: mostly its kin, or the same in other words.
func (f *family) text(parent int) string {
	if parent < 0 || f.members[parent].err != api.OK || f.rnd.Intn(8) == 0 {
		return ast.Print(sharpened(f.rnd, 40))
	}
	was := f.members[parent]
	switch f.rnd.Intn(8) {
	case 0:
		return scrambled(f.rnd, was.source)
	case 1:
		return was.source + "\n// the same\n"
	case 2:
		return was.source
	}
	return ast.Print(kin(f.rnd, was.p))
}

// chain is a commit's place in the family, and those ahead of it.
func (f *family) chain(i int) []int {
	var l []int
	for ; i >= 0; i = f.members[i].parent {
		l = append(l, i)
	}
	return l
}

// history is what must be told of a commit: rows, or the first error.
func (f *family) history(i int) ([]api.Row, api.Errno) {
	chain := f.chain(i)
	if len(chain) > 64 {
		return nil, api.ErrMany
	}
	var rows []api.Row
	for _, k := range chain {
		if f.members[k].err != api.OK {
			return nil, f.members[k].err
		}
		rows = append(rows, f.members[k].row)
	}
	return rows, api.OK
}

// asks asks all of a commit, and holds it against the family; where there is no room, what must be kept may be told not to be.
func (f *family) asks(t *testing.T, i int, room bool) {
	t.Helper()
	m := f.members[i]
	f.asksProgram(t, m)
	row, e := Row(f.Store, m.id)
	if !room && e == api.ErrFull {
		f.ends["no room"]++
	} else {
		same(t, "Row's error", e, m.err)
		same(t, "Row", row, m.row)
	}
	rows, e := History(f.Store, m.id)
	want, err := f.history(i)
	if room || e != api.ErrFull {
		same(t, "History's error", e, err)
		if !slices.Equal(rows, want) {
			t.Errorf("History: %s, not %s", inWords(rows), inWords(want))
		}
		f.ends[fmt.Sprint("history of ", min(len(rows), 4))]++
	} else if len(rows) > 0 {
		t.Errorf("History: %s beside an error", inWords(rows))
	}
	f.asksSelect(t, m)
}

// asksProgram asks a commit's program.
func (f *family) asksProgram(t *testing.T, m member) {
	t.Helper()
	if m.err != api.OK {
		f.ends["broken"]++
		noProgram(t, short(m.source), f.Store, m.id, m.err)
		return
	}
	programIs(t, short(m.source), f.shelf, m.id, m.source)
}

// asksSelect asks for the tests of a commit that must be run again, and runs the others (T4).
func (f *family) asksSelect(t *testing.T, m member) {
	t.Helper()
	old := member{}
	if m.parent >= 0 {
		old = f.members[m.parent]
	}
	if e := firstOf(m.err, old.err); e != api.OK {
		noSelect(t, short(m.source), f.Store, m.id, e)
		return
	}
	want := ast.Names(m.p, api.NodeTest)
	if m.parent >= 0 {
		want = graph.Select(m.p, old.p)
	}
	selects(t, short(m.source), f.shelf, m.id, want...)
	for _, name := range ast.Names(m.p, api.NodeTest) {
		if slices.Contains(want, name) {
			f.ends["selected"]++
			continue
		}
		f.ends["not selected"]++
		same(t, "how a test ends that is not selected", kill.Outcome(m.p, name, api.Fuel), kill.Outcome(old.p, name, api.Fuel))
	}
}

// firstOf is the first error of two.
func firstOf(a, b api.Errno) api.Errno {
	if a != api.OK {
		return a
	}
	return b
}

// Promises 19.1 and T4: families of commits, with falls and short room between: all that is told of any of them is by the chapter's words.
func TestFamiliesByChance(t *testing.T) {
	ends := map[string]int{}
	for seed := range int64(4) {
		rnd := chance(10 + seed)
		f := &family{shelf: fresh(t), rnd: rnd, ends: ends}
		for range 40 {
			f.grow(t)
			room := rnd.Intn(2) > 0
			if !room {
				f.fill()
			}
			f.asks(t, rnd.Intn(len(f.members)), room)
			f.free()
			if rnd.Intn(6) == 0 {
				f.shelf = f.again(t)
			}
			if t.Failed() {
				t.FailNow()
			}
		}
		for i := range f.members {
			f.asks(t, i, true)
		}
		f.untouched(t, "the second time", func() {
			for i := range f.members {
				f.asks(t, i, true)
			}
		})
	}
	for _, sort := range []string{"no room", "broken", "history of 0", "history of 1", "history of 3", "history of 4", "selected", "not selected"} {
		if ends[sort] < 8 {
			t.Errorf("too few of a sort: %v", ends)
		}
	}
}
