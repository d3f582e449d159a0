package parse

import (
	"strconv"

	"cupel/api"
	"cupel/ast"
)

const lowestRank = 1

// rank is how strongly a sign between two binds; 0, if it is none.
func rank(sign string) int {
	switch sign {
	case "||":
		return lowestRank
	case "&&":
		return 2
	case "<", "<=", ">", ">=", "==", "!=":
		return 3
	case "+", "-":
		return 4
	case "*", "/", "%":
		return 5
	}
	return 0
}

// expression is an expression as far as signs of a rank or a higher one go. What is on a sign's right has higher ones alone, so that those of one rank bind from the left.
func (p *parser) expression(lowest int) api.Node {
	n := p.operand()
	for rank(p.next().S) >= lowest {
		sign := p.next().S
		p.pass()
		n = api.Node{Kind: api.NodeBin, S: sign, Kids: []api.Node{n, p.expression(rank(sign) + 1)}}
		n = p.made(n)
	}
	return n
}

// operand is what stands beside signs between two.
func (p *parser) operand() api.Node {
	switch word := p.next(); {
	case word.S == "-" || word.S == "!":
		return p.signed(word.S)
	case word.S == "(":
		return p.bracketed()
	case word.S == "int" || word.S == "float":
		n := api.Node{Kind: api.NodeConv, T: p.typed()}
		n.Kids = append(n.Kids, p.bracketed())
		return p.made(n)
	case word.Kind == api.TokName:
		return p.variableOrCall()
	}
	return p.literal()
}

// signed is a sign ahead, and what it stands ahead of.
func (p *parser) signed(sign string) api.Node {
	n := api.Node{Kind: api.NodeUnary, S: sign}
	p.open(sign)
	n.Kids = append(n.Kids, p.operand())
	p.depth--
	return p.made(n)
}

func (p *parser) bracketed() api.Node {
	p.open("(")
	n := p.expression(lowestRank)
	p.shut(")")
	return n
}

func (p *parser) variableOrCall() api.Node {
	name := p.name()
	if p.sees("(") {
		return p.call(name)
	}
	return p.made(api.Node{Kind: api.NodeVar, S: name})
}

// call is a call, behind its name.
func (p *parser) call(name string) api.Node {
	n := api.Node{Kind: api.NodeCall, S: name}
	p.open("(")
	if !p.sees(")") {
		n.Kids = p.list(p.argument)
	}
	p.shut(")")
	return p.made(n)
}

func (p *parser) argument() api.Node { return p.expression(lowestRank) }

func (p *parser) literal() api.Node {
	word, n := p.next(), api.Node{}
	switch {
	case word.Kind == api.TokInt:
		n.Kind = api.NodeInt
		n.N, _ = strconv.ParseInt(word.S, 10, 64) // no word is a greater one
	case word.Kind == api.TokFloat:
		n = ast.Float(word.S)
	case word.S == "true":
		n = api.Node{Kind: api.NodeBool, N: 1}
	case word.S == "false":
		n.Kind = api.NodeBool
	default:
		p.fail(api.ErrParse)
	}
	p.pass()
	return p.made(n)
}
