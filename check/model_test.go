package check

import (
	"strings"

	"cupel/api"
	"cupel/ast"
)

// The chapter's words a second time, otherwise: what is known is found by going up from where it is asked for, a type is found anew each time, and each node is asked for all of its reasons. It is of trees that texts have.

// spot is a node where it stands.
type spot struct {
	node  api.Node
	up    *spot // nil: it is the program
	index int   // among the kids of the one above it
}

func (s *spot) kid(i int) *spot { return &spot{s.node.Kids[i], s, i} }

func (s *spot) top() *spot {
	if s.up == nil {
		return s
	}
	return s.up.top()
}

// declaration is the one that a spot stands in.
func (s *spot) declaration() *spot {
	if s.up.up == nil {
		return s
	}
	return s.up.declaration()
}

// behindKids is all spots below one, and itself, kids ahead of their node.
func behindKids(s *spot) []*spot {
	var list []*spot
	for i := range s.node.Kids {
		list = append(list, behindKids(s.kid(i))...)
	}
	return append(list, s)
}

// lookUp is the type of a variable as it is known at a spot, and whether it is.
func lookUp(s *spot, name string) (int, bool) {
	if s.up == nil {
		for _, d := range s.node.Kids {
			if d.Kind == api.NodeGlobal && d.S == name {
				return d.T, true
			}
		}
		return 0, false
	}
	for i := range s.index { // what stands ahead of it beside it
		switch beside := s.up.kid(i); {
		case beside.node.S != name:
		case beside.node.Kind == api.NodeDefine:
			return typeAt(beside.kid(0)), true
		case beside.node.Kind == api.NodeParam:
			return beside.node.T, true
		}
	}
	return lookUp(s.up, name)
}

// calledAt is the function that is called.
func calledAt(s *spot) (api.Node, bool) {
	for _, d := range s.top().node.Kids {
		if d.Kind == api.NodeFunc && d.S == s.node.S {
			return d, true
		}
	}
	return api.Node{}, false
}

// parametersOf is the types of a function's parameters.
func parametersOf(f api.Node) []int {
	var list []int
	for _, kid := range f.Kids {
		if kid.Kind == api.NodeParam {
			list = append(list, kid.T)
		}
	}
	return list
}

// typeAt is the type of an expression in which there is no reason to reject it.
func typeAt(s *spot) int {
	switch n := s.node; n.Kind {
	case api.NodeInt, api.NodeFloat, api.NodeBool:
		return n.Kind - api.NodeInt + api.TypeInt
	case api.NodeVar:
		t, _ := lookUp(s, n.S)
		return t
	case api.NodeCall:
		f, _ := calledAt(s)
		return f.T
	case api.NodeConv:
		return n.T
	case api.NodeUnary:
		return typeAt(s.kid(0))
	case api.NodeBin:
		return betweenTypes(n.S, typeAt(s.kid(0)), typeAt(s.kid(1)))
	}
	return 0
}

// betweenTypes is what a sign between two types makes of them, by the table; 0, if it may not stand there. (Of types that are none, which a declaration that is rejected in its turn may have, it is known alone that they are the same.)
func betweenTypes(sign string, a, b int) int {
	if ast.TypeName(a) == "" || ast.TypeName(b) == "" {
		if a == b && (sign == "==" || sign == "!=") {
			return api.TypeBool
		}
		return 0
	}
	for _, row := range signTable {
		for _, s := range strings.Fields(row.signs) {
			for t := api.TypeInt; t <= api.TypeBool; t++ {
				if s == sign && strings.Contains(" "+row.fit+" ", " "+letters[a]+letters[b]+letters[t]+" ") {
					return t
				}
			}
		}
	}
	return 0
}

// reasonsAt is all reasons at a spot, below which there is none.
func reasonsAt(s *spot) map[api.Errno]bool {
	n, has := s.node, map[api.Errno]bool{}
	kid := func() int { return typeAt(s.kid(0)) }
	t, known := lookUp(s, n.S)
	switch n.Kind {
	case api.NodeParam, api.NodeDefine:
		has[api.ErrTwice] = known
	case api.NodeVar:
		has[api.ErrKnown] = !known
	case api.NodeAssign:
		has[api.ErrKnown] = !known
		has[api.ErrType] = t != kid()
	case api.NodeCall:
		callReasons(s, has)
	case api.NodeUnary:
		has[api.ErrType] = n.S == "!" && kid() != api.TypeBool || n.S == "-" && kid() != api.TypeInt && kid() != api.TypeFloat
	case api.NodeConv:
		has[api.ErrType] = kid() != api.TypeInt && kid() != api.TypeFloat
	case api.NodeBin:
		has[api.ErrType] = typeAt(s) == 0
	case api.NodeReturn:
		has[api.ErrReturn] = s.declaration().node.Kind == api.NodeTest
		has[api.ErrType] = s.declaration().node.Kind == api.NodeFunc && s.declaration().node.T != kid()
	case api.NodeAssert:
		has[api.ErrType] = kid() != api.TypeBool
	case api.NodeGlobal:
		has[api.ErrType] = kid() != n.T
	}
	if (s.up.node.Kind == api.NodeIf || s.up.node.Kind == api.NodeFor) && s.index == 0 && typeAt(s) != api.TypeBool { // a condition
		has[api.ErrType] = true
	}
	return has
}

func callReasons(s *spot, has map[api.Errno]bool) {
	f, known := calledAt(s)
	want := parametersOf(f)
	has[api.ErrKnown] = !known
	has[api.ErrCount] = len(want) != len(s.node.Kids)
	for i := range s.node.Kids {
		if i >= len(want) || typeAt(s.kid(i)) != want[i] {
			has[api.ErrType] = true
		}
	}
}

// returnsAtEnds tells of a block whether each way through it ends in a return: its last statement is taken, of an if with else those of both blocks in its place, until there is no such if.
func returnsAtEnds(b api.Node) bool {
	last := []api.Node{b}
	for len(last) > 0 {
		n := last[0]
		last = last[1:]
		switch {
		case n.Kind == api.NodeBlock && len(n.Kids) > 0:
			last = append(last, n.Kids[len(n.Kids)-1])
		case n.Kind == api.NodeIf && len(n.Kids) > 2:
			last = append(last, n.Kids[1:]...)
		case n.Kind != api.NodeReturn:
			return false
		}
	}
	return true
}

// whyNot is the reason for which a declaration of a program is rejected.
func whyNot(p api.Node, place int) api.Errno {
	top := &spot{node: p}
	d := top.kid(place)
	for _, earlier := range p.Kids[:place] {
		if earlier.S == d.node.S {
			return api.ErrTwice
		}
	}
	for _, s := range behindKids(d) {
		has := reasonsAt(s)
		for _, why := range []api.Errno{api.ErrTwice, api.ErrKnown, api.ErrCount, api.ErrType, api.ErrReturn} {
			if has[why] {
				return why
			}
		}
	}
	if d.node.Kind == api.NodeFunc && !returnsAtEnds(d.node.Kids[len(d.node.Kids)-1]) {
		return api.ErrReturn
	}
	return api.OK
}

// typesOf is the types of all expressions of a program that is accepted, by their places.
func typesOf(p api.Node) []int {
	var list []int
	var visit func(*spot)
	visit = func(s *spot) {
		if s.node.Kind >= api.NodeInt {
			list = append(list, typeAt(s))
		} else {
			list = append(list, s.node.T)
		}
		for i := range s.node.Kids {
			visit(s.kid(i))
		}
	}
	visit(&spot{node: p})
	return list
}
