package graph

import (
	"math/rand"
	"slices"
	"testing"

	"cupel/api"
	"cupel/ast"
	"cupel/check"
	"cupel/interp"
	"cupel/mutate"
)

// Promise 16.1: programs by chance are as the chapter's words a second time have them.
func TestProgramsByChance(t *testing.T) {
	rnd := rand.New(rand.NewSource(1))
	sizes := map[int]int{}
	for range 900 {
		m := maker{rnd: rnd}
		p := m.program()
		withTypes := typesOf(t, p)
		now := asModel(t, p)
		for _, name := range now.inText {
			sizes[len(now.closure(name))]++
			same(t, "with types", Hash(withTypes, name), Hash(p, name))
			sameNames(t, "with types", Uses(withTypes, name), Uses(p, name)...)
		}
		asModels(t, now, now)
	}
	for size := 1; size <= 6; size++ {
		if sizes[size] < 200 {
			t.Errorf("too few of a size: %v", sizes)
		}
	}
}

// twist is a program with something in it otherwise, which may not be accepted.
func (m *maker) twist(p api.Node) api.Node {
	p = ast.Clone(p)
	at := m.rnd.Intn(len(p.Kids))
	d := p.Kids[at]
	switch m.rnd.Intn(7) {
	case 0:
		p.Kids = slices.Delete(p.Kids, at, at+1)
	case 1:
		m.rnd.Shuffle(len(p.Kids), func(i, j int) { p.Kids[i], p.Kids[j] = p.Kids[j], p.Kids[i] })
	case 2:
		p.Kids = slices.Insert(p.Kids, at, m.test(m.declared()))
	case 3:
		t := m.typed()
		p.Kids = slices.Insert(p.Kids, at, typed(api.NodeGlobal, t, m.local(), m.constant(t)))
	default:
		p.Kids[at] = m.again(d)
	}
	return p
}

// again is another declaration of the same name.
func (m *maker) again(d api.Node) api.Node {
	switch d.Kind {
	case api.NodeGlobal:
		d.Kids = []api.Node{m.constant(d.T)}
	case api.NodeFunc:
		d.Kids = d.Kids[:len(d.Kids)-1]
		return m.function(d)
	case api.NodeTest:
		return m.test(d.S)
	}
	return d
}

// accepted tells whether a program may be.
func accepted(p api.Node) bool {
	_, _, e := check.Program(p)
	return e == api.OK
}

// tally is how many tests there were of each sort.
type tally struct {
	apart  int // that are not to be run again,
	called int // and come to other declarations
	again  int // that are to be run again,
	unlike int // and end otherwise
}

// endsAlike tells that the tests that are not to be run again end in both programs the same, with as many steps, and come to the same nodes.
func endsAlike(t *testing.T, now, old api.Node, sum *tally) {
	t.Helper()
	again := Select(now, old)
	for _, name := range ast.Names(now, api.NodeTest) {
		for _, fuel := range []int{api.Fuel, 37} {
			got, e := interp.Run(now, name, fuel)
			same(t, "a test of now", e, api.OK)
			was, e := interp.Run(old, name, fuel)
			alike := e == api.OK && got.Outcome == was.Outcome && got.Steps == was.Steps && slices.Equal(got.Cover, was.Cover)
			switch {
			case slices.Contains(again, name):
				sum.again++
				if !alike {
					sum.unlike++
				}
				continue
			case !alike:
				t.Fatalf("%s behind %s: %s is not to be run again, but %v is not %v, error %d", ast.Print(now), ast.Print(old), name, got, was, e)
			}
			sum.apart++
			if slices.ContainsFunc(got.Cover, func(s api.Site) bool { return s.Name != name }) {
				sum.called++
			}
		}
	}
}

func (s tally) enough(t *testing.T) {
	t.Helper()
	if s.apart < 1000 || s.called < 300 || s.again < 1000 || s.unlike < 200 {
		t.Errorf("too few of a sort: %+v", s)
	}
}

// Promise 16.2: a test that is not selected ends in both programs the same: chance programs and their mutants.
func TestMutantsEndAlike(t *testing.T) {
	rnd := rand.New(rand.NewSource(2))
	var sum tally
	for range 80 {
		m := maker{rnd: rnd}
		p := m.program()
		now := modelOf(t, p)
		list := mutate.List(p)
		for _, i := range rnd.Perm(len(list))[:min(len(list), 25)] {
			q, _ := mutate.Apply(p, list[i])
			sameNames(t, "changed", Changed(q, p), list[i].Func)
			asModels(t, modelOf(t, q), now)
			endsAlike(t, q, p, &sum)
		}
	}
	sum.enough(t)
}

// Promises 16.1 and 16.2: a program, and what it is behind some changes: declarations more and fewer, in another order, and others of the same names.
func TestChangesEndAlike(t *testing.T) {
	rnd := rand.New(rand.NewSource(3))
	var sum tally
	for range 350 {
		m := maker{rnd: rnd}
		p := m.program()
		old := modelOf(t, p)
		q := p
		for range 6 {
			q = m.twist(q)
			if len(q.Kids) == 0 {
				break
			}
			if !accepted(q) {
				continue // what it becomes may be accepted again
			}
			now := asModel(t, q)
			asModels(t, now, old)
			asModels(t, old, now)
			endsAlike(t, q, p, &sum)
		}
	}
	sum.enough(t)
}
