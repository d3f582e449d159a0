package parse

import (
	"math"

	"cupel/api"
)

// program is all declarations up to the text's end.
func (p *parser) program() api.Node {
	n := api.Node{Kind: api.NodeProgram}
	globals := 0
	for p.next().Kind != api.TokEnd {
		if p.sees("var") {
			p.room(globals, api.MaxGlobals)
			globals++
		} else {
			p.room(len(n.Kids)-globals, api.MaxFuncs)
		}
		n.Kids = append(n.Kids, p.declaration())
	}
	n = p.made(n)
	p.pass()
	return n
}

func (p *parser) declaration() api.Node {
	switch p.next().S {
	case "var":
		return p.global()
	case "func":
		return p.function()
	}
	return p.test()
}

func (p *parser) global() api.Node {
	p.want("var")
	n := api.Node{Kind: api.NodeGlobal, S: p.name(), T: p.typed()}
	p.want("=")
	n.Kids = append(n.Kids, p.constant())
	p.want(";")
	return p.made(n)
}

func (p *parser) function() api.Node {
	p.want("func")
	n := api.Node{Kind: api.NodeFunc, S: p.name()}
	p.want("(")
	if !p.sees(")") {
		n.Kids = p.list(p.parameter)
	}
	p.want(")")
	n.T = p.typed()
	n.Kids = append(n.Kids, p.block())
	return p.made(n)
}

func (p *parser) test() api.Node {
	p.want("test")
	n := api.Node{Kind: api.NodeTest, S: p.name()}
	n.Kids = append(n.Kids, p.block())
	return p.made(n)
}

func (p *parser) parameter() api.Node {
	return p.made(api.Node{Kind: api.NodeParam, S: p.name(), T: p.typed()})
}

// list is parameters or arguments, one at least, with commas between them.
func (p *parser) list(item func() api.Node) []api.Node {
	list := []api.Node{item()}
	for p.sees(",") {
		p.pass()
		p.room(len(list), api.MaxParams)
		list = append(list, item())
	}
	return list
}

// typed passes a type's word.
func (p *parser) typed() int {
	t := 0
	switch p.next().S {
	case "int":
		t = api.TypeInt
	case "float":
		t = api.TypeFloat
	case "bool":
		t = api.TypeBool
	default:
		p.fail(api.ErrParse)
	}
	p.pass()
	return t
}

// constant is a global's literal. A sign ahead of it is its own, as it is no expression.
func (p *parser) constant() api.Node {
	if !p.sees("-") {
		return p.literal()
	}
	p.pass()
	if kind := p.next().Kind; kind != api.TokInt && kind != api.TokFloat {
		p.fail(api.ErrParse)
	}
	n := p.literal()
	if n.Kind == api.NodeFloat {
		n.N ^= math.MinInt64 // the highest bit is the sign, nought's too
	} else {
		n.N = -n.N
	}
	return n
}
