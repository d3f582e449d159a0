package check

import (
	"math/rand"
	"strconv"

	"cupel/api"
	"cupel/ast"
)

// maker makes programs by chance that are accepted, as it makes nothing that does not fit.
type maker struct {
	rnd       *rand.Rand
	globals   []api.Node
	functions []api.Node // without blocks
	known     []api.Node // parameters, and names with their types
	answers   int        // 0: a test
	names     int        // that were made
}

func (m *maker) typed() int { return 1 + m.rnd.Intn(3) }

func (m *maker) name() string {
	m.names++
	return "n" + strconv.Itoa(m.names)
}

func (m *maker) program() api.Node {
	for range m.rnd.Intn(3) {
		t := m.typed()
		m.globals = append(m.globals, global(m.name(), t, m.literal(t)))
	}
	for range 1 + m.rnd.Intn(3) {
		f := function(m.name(), m.typed())
		for range m.rnd.Intn(4) {
			f.Kids = append(f.Kids, param(m.name(), m.typed()))
		}
		m.functions = append(m.functions, f)
	}
	n := program(m.globals...)
	for _, f := range m.functions {
		m.known, m.answers = append([]api.Node{}, f.Kids...), f.T
		f.Kids = append(append([]api.Node{}, f.Kids...), m.block(3, true))
		n.Kids = append(n.Kids, f)
	}
	for range m.rnd.Intn(3) {
		m.known, m.answers = nil, 0
		n.Kids = append(n.Kids, testOf(m.name(), m.block(3, false)))
	}
	m.rnd.Shuffle(len(n.Kids), func(i, j int) { n.Kids[i], n.Kids[j] = n.Kids[j], n.Kids[i] })
	return ast.Clone(n)
}

func (m *maker) block(depth int, ends bool) api.Node {
	b, known := block(), len(m.known)
	for range m.rnd.Intn(4) {
		b.Kids = append(b.Kids, m.statement(depth))
	}
	if ends && depth > 0 && m.rnd.Intn(3) == 0 {
		b.Kids = append(b.Kids, node(api.NodeIf, m.expression(api.TypeBool, 2), m.block(depth-1, true), m.block(depth-1, true)))
	} else if ends {
		b.Kids = append(b.Kids, node(api.NodeReturn, m.expression(m.answers, 2)))
	}
	m.known = m.known[:known]
	return b
}

func (m *maker) statement(depth int) api.Node {
	switch m.rnd.Intn(9) {
	case 0, 1:
		t := m.typed()
		n := named(api.NodeDefine, m.name(), m.expression(t, 3))
		m.known = append(m.known, param(n.S, t))
		return n
	case 2:
		if all := append(append([]api.Node{}, m.known...), m.globals...); len(all) > 0 {
			v := all[m.rnd.Intn(len(all))]
			return named(api.NodeAssign, v.S, m.expression(v.T, 3))
		}
	case 3:
		if depth > 0 {
			n := node(api.NodeIf, m.expression(api.TypeBool, 2), m.block(depth-1, false))
			if m.rnd.Intn(2) == 0 {
				n.Kids = append(n.Kids, m.block(depth-1, false))
			}
			return n
		}
	case 4:
		if depth > 0 {
			return node(api.NodeFor, m.expression(api.TypeBool, 2), m.block(depth-1, false))
		}
	case 5:
		return node(api.NodeAssert, m.expression(api.TypeBool, 3))
	case 6:
		return node(api.NodeDo, m.call(m.functions[m.rnd.Intn(len(m.functions))], 2))
	case 7:
		if m.answers != 0 {
			return node(api.NodeReturn, m.expression(m.answers, 2))
		}
	}
	return skip()
}

func (m *maker) call(f api.Node, depth int) api.Node {
	n := call(f.S)
	for _, p := range f.Kids {
		n.Kids = append(n.Kids, m.expression(p.T, depth-1))
	}
	return n
}

// expression is one of a type.
func (m *maker) expression(t, depth int) api.Node {
	if depth <= 0 || m.rnd.Intn(4) == 0 {
		return m.leaf(t)
	}
	switch m.rnd.Intn(5) {
	case 0:
		for _, i := range m.rnd.Perm(len(m.functions)) {
			if m.functions[i].T == t {
				return m.call(m.functions[i], depth)
			}
		}
	case 1:
		return named(api.NodeUnary, []string{"", "-", "-", "!"}[t], m.expression(t, depth-1))
	case 2:
		if t != api.TypeBool {
			return typed(api.NodeConv, t, "", m.expression(1+m.rnd.Intn(2), depth-1))
		}
	}
	return m.between(t, depth)
}

func (m *maker) between(t, depth int) api.Node {
	signs, of := []string{"+", "-", "*", "/"}, t
	switch {
	case t == api.TypeInt:
		signs = append(signs, "%")
	case t == api.TypeBool:
		switch of = m.typed(); of {
		case api.TypeBool:
			signs = []string{"&&", "||", "==", "!="}
		default:
			signs = []string{"<", "<=", ">", ">=", "==", "!="}
		}
	}
	return bin(m.expression(of, depth-1), signs[m.rnd.Intn(len(signs))], m.expression(of, depth-1))
}

func (m *maker) leaf(t int) api.Node {
	all := append(append([]api.Node{}, m.known...), m.globals...)
	for _, i := range m.rnd.Perm(len(all)) {
		if all[i].T == t && m.rnd.Intn(3) > 0 {
			return name(all[i].S)
		}
	}
	return m.literal(t)
}

func (m *maker) literal(t int) api.Node {
	switch t {
	case api.TypeInt:
		return whole(int64(m.rnd.Intn(5)))
	case api.TypeFloat:
		return ast.Float([]string{"0.0", "1.5", "20.25"}[m.rnd.Intn(3)])
	}
	return api.Node{Kind: api.NodeBool, N: int64(m.rnd.Intn(2))}
}

// twist is a tree with something in it otherwise, by chance: mostly so that some text still has it.
func twist(rnd *rand.Rand, p api.Node) api.Node {
	own := ast.Clone(p)
	all := allSpots(&own)
	n, other := all[rnd.Intn(len(all))], ast.Clone(*all[rnd.Intn(len(all))])
	switch rnd.Intn(11) {
	case 0, 1: // another expression in its place
		if n.Kind >= api.NodeInt && other.Kind >= api.NodeInt {
			*n = other
		}
	case 2, 3: // another name
		if isName(n.S) && isName(other.S) {
			n.S = other.S
		}
	case 4: // another sign
		if n.Kind == other.Kind && !isName(n.S) && n.Kind != api.NodeFloat {
			n.S = other.S
		}
	case 5: // another type
		if n.Kind < api.NodeBlock && n.T != 0 {
			n.T = 1 + rnd.Intn(3)
		} else if n.Kind == api.NodeConv {
			n.T = 1 + rnd.Intn(2)
		}
	case 6: // one kid fewer, where there may be
		if i := len(n.Kids) - 1; n.Kind == api.NodeBlock && i >= 0 {
			i = rnd.Intn(i + 1)
			n.Kids = append(n.Kids[:i], n.Kids[i+1:]...)
		} else if n.Kind == api.NodeCall && i >= 0 || n.Kind == api.NodeIf && i == 2 {
			n.Kids = n.Kids[:i]
		}
	case 7: // one more
		if other.Kind >= api.NodeDefine && other.Kind <= api.NodeSkip && n.Kind == api.NodeBlock || other.Kind >= api.NodeInt && n.Kind == api.NodeCall {
			i := rnd.Intn(len(n.Kids) + 1)
			n.Kids = append(n.Kids[:i], append([]api.Node{other}, n.Kids[i:]...)...)
		}
	case 8: // another order
		if n.Kind == api.NodeBlock || n.Kind == api.NodeBin || n.Kind == api.NodeCall || n.Kind == api.NodeProgram {
			rnd.Shuffle(len(n.Kids), func(i, j int) { n.Kids[i], n.Kids[j] = n.Kids[j], n.Kids[i] })
		}
	case 9: // another kind of statement
		if n.Kind == api.NodeReturn || n.Kind == api.NodeAssert {
			n.Kind = api.NodeReturn + api.NodeAssert - n.Kind
		} else if n.Kind == api.NodeDefine || n.Kind == api.NodeAssign {
			n.Kind = api.NodeDefine + api.NodeAssign - n.Kind
		}
	case 10: // a declaration twice
		if n.Kind < api.NodeParam && n.Kind > api.NodeProgram {
			own.Kids = append(own.Kids, ast.Clone(*n))
		}
	}
	return own
}

// allSpots is all nodes where they stand.
func allSpots(n *api.Node) []*api.Node {
	list := []*api.Node{n}
	for i := range n.Kids {
		list = append(list, allSpots(&n.Kids[i])...)
	}
	return list
}

// wreck is a tree with one part of a node changed to anything.
func wreck(rnd *rand.Rand, p api.Node) api.Node {
	own := ast.Clone(p)
	all := allSpots(&own)
	n, other := all[rnd.Intn(len(all))], ast.Clone(*all[rnd.Intn(len(all))])
	switch rnd.Intn(9) {
	case 0:
		n.Kind = rnd.Intn(30)
	case 1:
		n.T = rnd.Intn(6) - 1
	case 2:
		n.S = []string{"", "x", other.S, "?", "+", "!", "int", "1.5", "a b", "0.0"}[rnd.Intn(10)]
	case 3:
		n.N = []int64{0, 1, -1, 2, other.N, 1 << 62, -1 << 63, ast.Bits("1.5")}[rnd.Intn(8)]
	case 4:
		*n = other
	case 5:
		if len(n.Kids) > 0 {
			i := rnd.Intn(len(n.Kids))
			n.Kids = append(n.Kids[:i], n.Kids[i+1:]...)
		}
	case 6:
		i := rnd.Intn(len(n.Kids) + 1)
		n.Kids = append(n.Kids[:i], append([]api.Node{other}, n.Kids[i:]...)...)
	case 7:
		rnd.Shuffle(len(n.Kids), func(i, j int) { n.Kids[i], n.Kids[j] = n.Kids[j], n.Kids[i] })
	case 8:
		*n = api.Node{Kind: rnd.Intn(30)}
	}
	return own
}
