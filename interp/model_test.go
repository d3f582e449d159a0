package interp

import (
	"math"

	"cupel/api"
	"cupel/ast"
)

// The chapter's words a second time, otherwise: a program is turned into rows of small orders with jumps, which a loop carries out over a stack of values of the machine's own kinds; a name is looked for from the last one that was made known on, and is let go at the end of its block. It is of programs that are accepted, and knows neither layer 13 nor what is built here.

// small is one small order.
type small struct {
	do    string
	place int    // of step
	name  string // of variables and calls
	to    int    // of jumps: where; of call: how many arguments; of make: a type
	value any    // of push
}

// writer writes a declaration's orders.
type writer struct {
	list  []small
	place int // of the next node
}

func (w *writer) say(s small) int {
	w.list = append(w.list, s)
	return len(w.list) - 1
}

// land lets a jump go to what is written next.
func (w *writer) land(jump int) { w.list[jump].to = len(w.list) }

// pass passes over a tree that is not written here.
func (w *writer) pass(n api.Node) { w.place += ast.Count(n) }

func ordersOf(d api.Node) []small {
	w := &writer{place: 1}
	for _, kid := range d.Kids {
		if kid.Kind == api.NodeParam {
			w.pass(kid)
			continue
		}
		w.write(kid)
	}
	w.say(small{do: "end"})
	return w.list
}

func (w *writer) write(n api.Node) {
	w.say(small{do: "step", place: w.place})
	w.place++
	switch n.Kind {
	case api.NodeBlock:
		w.say(small{do: "open"})
		w.kids(n)
		w.say(small{do: "close"})
	case api.NodeDefine:
		w.kids(n)
		w.say(small{do: "define", name: n.S})
	case api.NodeAssign:
		w.kids(n)
		w.say(small{do: "assign", name: n.S})
	case api.NodeReturn:
		w.kids(n)
		w.say(small{do: "return"})
	case api.NodeAssert:
		w.kids(n)
		w.say(small{do: "assert"})
	case api.NodeDo:
		w.kids(n)
		w.say(small{do: "drop"})
	case api.NodeIf:
		w.branch(n)
	case api.NodeFor:
		w.loop(n)
	default:
		w.expression(n)
	}
}

func (w *writer) kids(n api.Node) {
	for _, kid := range n.Kids {
		w.write(kid)
	}
}

func (w *writer) branch(n api.Node) {
	w.write(n.Kids[0])
	no := w.say(small{do: "unless"})
	w.write(n.Kids[1])
	over := w.say(small{do: "jump"})
	w.land(no)
	if len(n.Kids) > 2 {
		w.write(n.Kids[2])
	}
	w.land(over)
}

func (w *writer) loop(n api.Node) {
	again := len(w.list)
	w.write(n.Kids[0])
	no := w.say(small{do: "unless"})
	w.write(n.Kids[1])
	w.say(small{do: "jump", to: again})
	w.land(no)
}

func (w *writer) expression(n api.Node) {
	switch n.Kind {
	case api.NodeInt, api.NodeFloat, api.NodeBool:
		w.say(small{do: "push", value: native(n)})
	case api.NodeVar:
		w.say(small{do: "get", name: n.S})
	case api.NodeCall:
		w.kids(n)
		w.say(small{do: "call", name: n.S, to: len(n.Kids)})
	case api.NodeConv:
		w.kids(n)
		w.say(small{do: "make", to: n.T})
	case api.NodeUnary:
		w.kids(n)
		w.say(small{do: "ahead" + n.S})
	case api.NodeBin:
		w.write(n.Kids[0])
		if n.S == "&&" || n.S == "||" { // what is there stays, or goes for the second one
			jump := w.say(small{do: n.S})
			w.write(n.Kids[1])
			w.land(jump)
			return
		}
		w.write(n.Kids[1])
		w.say(small{do: n.S})
	}
}

// native is the value of a literal.
func native(n api.Node) any {
	switch n.Kind {
	case api.NodeInt:
		return n.N
	case api.NodeFloat:
		return math.Float64frombits(uint64(n.N))
	}
	return n.N != 0
}

// variable is a name with its value.
type variable struct {
	name  string
	value any
}

// level is a call, or the test.
type level struct {
	of    string
	next  int // which order
	known []variable
	marks []int // how many were known at the beginning of each block
}

// model carries out a test.
type model struct {
	orders  map[string][]small
	params  map[string][]string
	globals []variable
	levels  []*level
	stack   []any
	steps   int
	been    map[string][]bool // by declarations and places
}

func newModel(p api.Node, test string) *model {
	m := &model{orders: map[string][]small{}, params: map[string][]string{}, been: map[string][]bool{}}
	for _, d := range p.Kids {
		if d.Kind == api.NodeGlobal {
			m.globals = append(m.globals, variable{d.S, native(d.Kids[0])})
			continue
		}
		m.orders[d.S], m.been[d.S] = ordersOf(d), make([]bool, ast.Count(d))
		for _, kid := range d.Kids {
			if kid.Kind == api.NodeParam {
				m.params[d.S] = append(m.params[d.S], kid.S)
			}
		}
	}
	m.levels = []*level{{of: test}}
	return m
}

// modelled is what a run must answer.
func modelled(p api.Node, test string, fuel int) api.Result {
	m := newModel(p, test)
	outcome := 0
	for outcome == 0 {
		outcome = m.carry(fuel)
	}
	r := api.Result{Outcome: outcome, Steps: m.steps}
	for _, name := range sortedNames(m.been) {
		for place, been := range m.been[name] {
			if been {
				r.Cover = append(r.Cover, api.Site{Name: name, Node: place})
			}
		}
	}
	return r
}

func sortedNames(been map[string][]bool) []string {
	var names []string
	for name := range been {
		at := 0
		for at < len(names) && names[at] < name {
			at++
		}
		names = append(names[:at], append([]string{name}, names[at:]...)...)
	}
	return names
}

func (m *model) pop() any {
	v := m.stack[len(m.stack)-1]
	m.stack = m.stack[:len(m.stack)-1]
	return v
}

func (m *model) push(v any) { m.stack = append(m.stack, v) }

// find is a variable of a level.
func (m *model) find(l *level, name string) *variable {
	for i := len(l.known) - 1; i >= 0; i-- {
		if l.known[i].name == name {
			return &l.known[i]
		}
	}
	for i := range m.globals {
		if m.globals[i].name == name {
			return &m.globals[i]
		}
	}
	return nil
}

// carry carries out the next order: how the test ended, or 0.
func (m *model) carry(fuel int) int {
	l := m.levels[len(m.levels)-1]
	s := m.orders[l.of][l.next]
	l.next++
	switch s.do {
	case "step":
		if m.steps >= fuel {
			return 6
		}
		m.steps++
		m.been[l.of][s.place] = true
	case "open":
		l.marks = append(l.marks, len(l.known))
	case "close":
		l.known = l.known[:l.marks[len(l.marks)-1]]
		l.marks = l.marks[:len(l.marks)-1]
	case "define":
		l.known = append(l.known, variable{s.name, m.pop()})
	case "assign":
		m.find(l, s.name).value = m.pop()
	case "get":
		m.push(m.find(l, s.name).value)
	case "push":
		m.push(s.value)
	case "drop":
		m.pop()
	case "assert":
		if !m.pop().(bool) {
			return 2
		}
	case "jump":
		l.next = s.to
	case "unless":
		if !m.pop().(bool) {
			l.next = s.to
		}
	case "&&", "||":
		if m.stack[len(m.stack)-1].(bool) == (s.do == "||") {
			l.next = s.to
		} else {
			m.pop()
		}
	case "return": // the value stays on the stack
		m.levels = m.levels[:len(m.levels)-1]
	case "end": // of a test: functions return ahead of it
		return 1
	case "call":
		if len(m.levels) > 64 { // the test is a level, too
			return 5
		}
		m.call(s)
	default:
		return m.reckon(s)
	}
	return 0
}

func (m *model) call(s small) {
	l := &level{of: s.name}
	arguments := m.stack[len(m.stack)-s.to:]
	for i, name := range m.params[s.name] {
		l.known = append(l.known, variable{name, arguments[i]})
	}
	m.stack = m.stack[:len(m.stack)-s.to]
	m.levels = append(m.levels, l)
}

// reckon carries out an order that makes a value of values: a trap, or 0.
func (m *model) reckon(s small) int {
	last := m.pop()
	switch v := last.(type) {
	case bool:
		switch s.do {
		case "ahead!":
			m.push(!v)
		case "==":
			m.push(m.pop().(bool) == v)
		case "!=":
			m.push(m.pop().(bool) != v)
		}
	case int64:
		return m.wholes(s, v)
	case float64:
		return m.numbers(s, v)
	}
	return 0
}

func (m *model) wholes(s small, b int64) int {
	switch {
	case s.do == "ahead-":
		m.push(-b)
		return 0
	case s.do == "make" && s.to == 1:
		m.push(b)
		return 0
	case s.do == "make":
		m.push(float64(b))
		return 0
	}
	a := m.pop().(int64)
	if (s.do == "/" || s.do == "%") && b == 0 {
		return 3
	}
	switch s.do {
	case "+":
		m.push(a + b)
	case "-":
		m.push(a - b)
	case "*":
		m.push(a * b)
	case "/":
		m.push(a / b)
	case "%":
		m.push(a % b)
	default:
		m.push(holds(s.do, a < b, a == b, a > b))
	}
	return 0
}

func (m *model) numbers(s small, b float64) int {
	switch {
	case s.do == "ahead-":
		m.push(math.Copysign(b, -math.Copysign(1, b)))
		return 0
	case s.do == "make" && s.to == 2:
		m.push(b)
		return 0
	case s.do == "make":
		if !(b > -9223372036854777856.0 && b < 9223372036854775808.0) {
			return 4
		}
		m.push(int64(b))
		return 0
	}
	a := m.pop().(float64)
	switch s.do {
	case "+":
		m.push(a + b)
	case "-":
		m.push(a - b)
	case "*":
		m.push(a * b)
	case "/":
		m.push(a / b)
	default:
		m.push(holds(s.do, a < b, a == b, a > b))
	}
	return 0
}

// holds tells what a comparison says, if the first one is below the second one, equal to it, or above it.
func holds(sign string, below, equal, above bool) bool {
	switch sign {
	case "<":
		return below
	case "<=":
		return below || equal
	case ">":
		return above
	case ">=":
		return above || equal
	case "==":
		return equal
	}
	return !equal
}
