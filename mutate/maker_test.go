package mutate

import (
	"math/rand"
	"strconv"

	"cupel/api"
	"cupel/ast"
)

// maker makes programs by chance that are accepted, as it makes nothing that does not fit.
type maker struct {
	rnd       *rand.Rand
	globals   []api.Node
	functions []api.Node // without blocks
	known     []api.Node // parameters, and names with their types
	answers   int        // 0: a test
	names     int        // that were made
}

func (m *maker) typed() int { return 1 + m.rnd.Intn(3) }

func (m *maker) one(list ...string) string { return list[m.rnd.Intn(len(list))] }

func (m *maker) name() string {
	m.names++
	return m.one("a", "b", "z", "B", "_") + strconv.Itoa(m.names)
}

func (m *maker) know(name string, t int) { m.known = append(m.known, typed(api.NodeParam, t, name)) }

func (m *maker) program() api.Node {
	for range m.rnd.Intn(3) {
		t := m.typed()
		m.globals = append(m.globals, typed(api.NodeGlobal, t, m.name(), m.constant(t)))
	}
	for range 1 + m.rnd.Intn(3) {
		f := typed(api.NodeFunc, m.typed(), m.name())
		m.known = nil
		for range m.rnd.Intn(3) {
			m.know(m.name(), m.typed())
		}
		f.Kids = m.known
		m.functions = append(m.functions, f)
	}
	n := program(m.globals...)
	for _, f := range m.functions {
		m.known, m.answers = append([]api.Node{}, f.Kids...), f.T
		f.Kids = append(append([]api.Node{}, f.Kids...), m.block(2, true))
		n.Kids = append(n.Kids, f)
	}
	for range m.rnd.Intn(3) {
		m.known, m.answers = nil, 0
		n.Kids = append(n.Kids, named(api.NodeTest, m.name(), m.block(2, false)))
	}
	m.rnd.Shuffle(len(n.Kids), func(i, j int) { n.Kids[i], n.Kids[j] = n.Kids[j], n.Kids[i] })
	return ast.Clone(n)
}

func (m *maker) block(depth int, ends bool) api.Node {
	b, known := block(), len(m.known)
	for range m.rnd.Intn(4) {
		b.Kids = append(b.Kids, m.statement(depth))
	}
	if ends && depth > 0 && m.rnd.Intn(3) == 0 {
		b.Kids = append(b.Kids, tree(api.NodeIf, m.expression(api.TypeBool, 2), m.block(depth-1, true), m.block(depth-1, true)))
	} else if ends {
		b.Kids = append(b.Kids, tree(api.NodeReturn, m.expression(m.answers, 3)))
	}
	m.known = m.known[:known]
	return b
}

func (m *maker) statement(depth int) api.Node {
	all := append(append([]api.Node{}, m.known...), m.globals...)
	switch m.rnd.Intn(7) {
	case 0:
		t := m.typed()
		n := named(api.NodeDefine, m.name(), m.expression(t, 3))
		m.know(n.S, t)
		return n
	case 1, 2:
		if len(all) > 0 {
			v := all[m.rnd.Intn(len(all))]
			return named(api.NodeAssign, v.S, m.expression(v.T, 3))
		}
	case 3:
		if depth > 0 {
			n := tree(api.NodeIf, m.expression(api.TypeBool, 2), m.block(depth-1, false))
			if m.rnd.Intn(2) == 0 {
				n.Kids = append(n.Kids, m.block(depth-1, false))
			}
			return n
		}
	case 4:
		if depth > 0 {
			return tree(api.NodeFor, m.expression(api.TypeBool, 2), m.block(depth-1, false))
		}
	case 5:
		return tree(api.NodeAssert, m.expression(api.TypeBool, 3))
	case 6:
		return tree(api.NodeDo, m.call(m.functions[m.rnd.Intn(len(m.functions))], 2))
	}
	return skip()
}

func (m *maker) call(f api.Node, depth int) api.Node {
	n := named(api.NodeCall, f.S)
	for _, p := range f.Kids {
		n.Kids = append(n.Kids, m.expression(p.T, depth-1))
	}
	return n
}

// expression is one of a type.
func (m *maker) expression(t, depth int) api.Node {
	if depth <= 0 || m.rnd.Intn(4) == 0 {
		return m.leaf(t)
	}
	switch m.rnd.Intn(8) {
	case 0:
		for _, i := range m.rnd.Perm(len(m.functions)) {
			if m.functions[i].T == t {
				return m.call(m.functions[i], depth)
			}
		}
	case 1, 2:
		return named(api.NodeUnary, []string{"", "-", "-", "!"}[t], m.expression(t, depth-1))
	case 3:
		if t != api.TypeBool {
			return typed(api.NodeConv, t, "", m.expression(1+m.rnd.Intn(2), depth-1))
		}
	}
	return m.between(t, depth)
}

func (m *maker) between(t, depth int) api.Node {
	signs, of := []string{"+", "-", "*", "/"}, t
	switch {
	case t == api.TypeInt:
		signs = append(signs, "%")
	case t == api.TypeBool:
		signs = []string{"<", "<=", ">", ">=", "==", "!="}
		if of = m.typed(); of == api.TypeBool {
			signs = []string{"&&", "||", "==", "!="}
		}
	}
	return bin(m.expression(of, depth-1), m.one(signs...), m.expression(of, depth-1))
}

func (m *maker) leaf(t int) api.Node {
	all := append(append([]api.Node{}, m.known...), m.globals...)
	for _, i := range m.rnd.Perm(len(all)) {
		if all[i].T == t && m.rnd.Intn(2) > 0 {
			return variable(all[i].S)
		}
	}
	return m.literal(t)
}

func (m *maker) literal(t int) api.Node {
	switch t {
	case api.TypeInt:
		return whole([]int64{0, 1, 1, 2, 3, 9, 1 << 62, 1<<63 - 2, 1<<63 - 1}[m.rnd.Intn(9)])
	case api.TypeFloat:
		return ast.Float(m.one("0.0", "1.0", "1.5", "0.1", "20.25", "99999999999999.0", "0.00000000000001"))
	}
	return truth(int64(m.rnd.Intn(2)))
}

// constant is a global's literal, perhaps with a sign.
func (m *maker) constant(t int) api.Node {
	n := m.literal(t)
	if m.rnd.Intn(2) == 0 {
		return n
	}
	switch t {
	case api.TypeInt:
		n.N = -n.N
	case api.TypeFloat:
		n.N ^= -1 << 63
	}
	return n
}
