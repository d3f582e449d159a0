package trend

import (
	"math/rand"
	"strconv"

	"cupel/api"
	"cupel/ast"
)

// maker makes programs by chance that are accepted, as it makes nothing that does not fit. Most loops count, so that tests come to something. A declaration uses but some of the others, so that closures are unlike; variables have the names of functions and tests, too.
type maker struct {
	rnd       *rand.Rand
	globals   []api.Node
	functions []api.Node     // without blocks
	tests     []string       // their names
	read      []api.Node     // the globals that the declaration may use,
	called    []api.Node     // and the functions
	known     []api.Node     // parameters, and names with their types
	fixed     map[string]int // names that loops count by, which nothing else assigns
	answers   int            // 0: a test
	names     int            // that were made
}

func (m *maker) typed() int { return 1 + m.rnd.Intn(3) }

func (m *maker) one(list ...string) string { return list[m.rnd.Intn(len(list))] }

func (m *maker) declared() string {
	m.names++
	return m.one("a", "b", "z", "B", "_") + strconv.Itoa(m.names)
}

// local is a name that is not known yet; ones of other blocks are taken again.
func (m *maker) local() string {
	for {
		name := m.one("p", "q", "r", "s", "v", "w", "x", "y") + m.one("", "", "1", "2", "3")
		switch m.rnd.Intn(6) {
		case 0:
			name = m.functions[m.rnd.Intn(len(m.functions))].S
		case 1:
			name = m.one(m.tests...)
		}
		is := false
		for _, k := range m.known {
			is = is || k.S == name
		}
		if !is {
			return name
		}
	}
}

// some is some of a list, the fewer the more there are.
func (m *maker) some(list []api.Node) []api.Node {
	var own []api.Node
	for _, i := range m.rnd.Perm(len(list)) {
		if m.rnd.Intn(len(list)) < 2 {
			own = append(own, list[i])
		}
	}
	return own
}

func (m *maker) program() api.Node {
	m.fixed = map[string]int{}
	for range m.rnd.Intn(6) {
		t := m.typed()
		m.globals = append(m.globals, typed(api.NodeGlobal, t, m.declared(), m.constant(t)))
	}
	for range 1 + m.rnd.Intn(6) {
		m.functions = append(m.functions, typed(api.NodeFunc, m.typed(), m.declared()))
	}
	for range 1 + m.rnd.Intn(4) {
		m.tests = append(m.tests, m.declared())
	}
	for i := range m.functions {
		m.known = nil
		for range m.rnd.Intn(3) {
			m.know(m.local(), m.typed())
		}
		m.functions[i].Kids = m.known
	}
	n := program(m.globals...)
	for _, f := range m.functions {
		n.Kids = append(n.Kids, m.function(f))
	}
	for _, name := range m.tests {
		n.Kids = append(n.Kids, m.test(name))
	}
	m.rnd.Shuffle(len(n.Kids), func(i, j int) { n.Kids[i], n.Kids[j] = n.Kids[j], n.Kids[i] })
	return ast.Clone(n)
}

// function is a function with a block.
func (m *maker) function(f api.Node) api.Node {
	m.read, m.called = m.some(m.globals), m.some(m.functions)
	m.known, m.answers = append([]api.Node{}, f.Kids...), f.T
	f.Kids = append(append([]api.Node{}, f.Kids...), m.block(2, true))
	return f
}

func (m *maker) test(name string) api.Node {
	m.read, m.called = m.some(m.globals), m.some(m.functions)
	m.known, m.answers = nil, 0
	return named(api.NodeTest, name, m.block(2, false))
}

func (m *maker) know(name string, t int) { m.known = append(m.known, typed(api.NodeParam, t, name)) }

func (m *maker) block(depth int, ends bool) api.Node {
	b, known := block(), len(m.known)
	for range m.rnd.Intn(5) {
		b.Kids = append(b.Kids, m.statements(depth)...)
	}
	if ends && depth > 0 && m.rnd.Intn(3) == 0 {
		b.Kids = append(b.Kids, tree(api.NodeIf, m.expression(api.TypeBool, 2), m.block(depth-1, true), m.block(depth-1, true)))
	} else if ends {
		b.Kids = append(b.Kids, tree(api.NodeReturn, m.expression(m.answers, 3)))
	}
	m.known = m.known[:known]
	return b
}

func (m *maker) statements(depth int) []api.Node {
	if depth > 0 && m.rnd.Intn(8) == 0 {
		return m.counting(depth)
	}
	return []api.Node{m.statement(depth)}
}

// counting is a loop that counts, and the name ahead of it.
func (m *maker) counting(depth int) []api.Node {
	name := m.local()
	start := named(api.NodeDefine, name, whole(0))
	m.know(name, api.TypeInt)
	m.fixed[name]++
	i := named(api.NodeVar, name)
	body := m.block(depth-1, false)
	body.Kids = append(body.Kids, named(api.NodeAssign, name, bin(i, "+", whole(1))))
	m.fixed[name]--
	return []api.Node{start, tree(api.NodeFor, bin(i, "<", whole(int64(m.rnd.Intn(6)))), body)}
}

func (m *maker) statement(depth int) api.Node {
	switch m.rnd.Intn(12) {
	case 0, 1, 2:
		t := m.typed()
		n := named(api.NodeDefine, m.local(), m.expression(t, 3))
		m.know(n.S, t)
		return n
	case 3, 4, 5:
		all := append(append([]api.Node{}, m.known...), m.read...)
		for _, i := range m.rnd.Perm(len(all)) {
			if v := all[i]; m.fixed[v.S] == 0 {
				return named(api.NodeAssign, v.S, m.expression(v.T, 3))
			}
		}
	case 6, 7:
		if depth > 0 {
			n := tree(api.NodeIf, m.expression(api.TypeBool, 2), m.block(depth-1, false))
			if m.rnd.Intn(2) == 0 {
				n.Kids = append(n.Kids, m.block(depth-1, false))
			}
			return n
		}
	case 8:
		if depth > 0 && m.rnd.Intn(4) == 0 {
			return tree(api.NodeFor, m.expression(api.TypeBool, 2), m.block(depth-1, false))
		}
	case 9:
		return tree(api.NodeAssert, m.claim())
	case 10:
		if len(m.called) > 0 {
			return tree(api.NodeDo, m.call(m.called[m.rnd.Intn(len(m.called))], 2))
		}
	case 11:
		if m.answers != 0 && m.rnd.Intn(3) == 0 {
			return tree(api.NodeReturn, m.expression(m.answers, 2))
		}
	}
	return tree(api.NodeSkip)
}

// claim is what is asserted: mostly something that holds, whatever the values are.
func (m *maker) claim() api.Node {
	e := m.expression(api.TypeBool, 3)
	if m.rnd.Intn(4) == 0 {
		return e
	}
	return bin(e, "||", truth(1))
}

func (m *maker) call(f api.Node, depth int) api.Node {
	n := named(api.NodeCall, f.S)
	for _, p := range f.Kids {
		n.Kids = append(n.Kids, m.expression(p.T, depth-1))
	}
	return n
}

// expression is one of a type.
func (m *maker) expression(t, depth int) api.Node {
	if depth <= 0 || m.rnd.Intn(4) == 0 {
		return m.leaf(t)
	}
	switch m.rnd.Intn(9) {
	case 0:
		for _, i := range m.rnd.Perm(len(m.called)) {
			if m.called[i].T == t {
				return m.call(m.called[i], depth)
			}
		}
	case 1, 2:
		return named(api.NodeUnary, []string{"", "-", "-", "!"}[t], m.expression(t, depth-1))
	case 3, 4:
		if t != api.TypeBool {
			return typed(api.NodeConv, t, "", m.expression(1+m.rnd.Intn(2), depth-1))
		}
	}
	return m.between(t, depth)
}

func (m *maker) between(t, depth int) api.Node {
	signs, of := []string{"+", "+", "-", "-", "*", "*", "/"}, t
	switch {
	case t == api.TypeInt:
		signs = append(signs, "%")
	case t == api.TypeBool:
		signs = []string{"<", "<=", ">", ">=", "==", "!="}
		if of = m.typed(); of == api.TypeBool {
			signs = []string{"&&", "||", "&&", "||", "==", "!="}
		}
	}
	return bin(m.expression(of, depth-1), m.one(signs...), m.expression(of, depth-1))
}

func (m *maker) leaf(t int) api.Node {
	all := append(append([]api.Node{}, m.known...), m.read...)
	for _, i := range m.rnd.Perm(len(all)) {
		if all[i].T == t && m.rnd.Intn(3) > 0 {
			return named(api.NodeVar, all[i].S)
		}
	}
	return m.literal(t)
}

func (m *maker) literal(t int) api.Node {
	switch t {
	case api.TypeInt:
		return whole([]int64{0, 1, 1, 2, 3, 5, 64, 1 << 62, 1<<63 - 1}[m.rnd.Intn(9)])
	case api.TypeFloat:
		return ast.Float(m.one("0.0", "1.0", "1.5", "0.1", "20.25", "99999999999999.0", "0.00000000000001"))
	}
	return truth(int64(m.rnd.Intn(2)))
}

// constant is a global's literal, perhaps with a sign.
func (m *maker) constant(t int) api.Node {
	n := m.literal(t)
	if m.rnd.Intn(2) == 0 {
		return n
	}
	switch t {
	case api.TypeInt:
		n.N = -n.N
	case api.TypeFloat:
		n.N ^= -1 << 63
	}
	return n
}
