package ast

import (
	"strconv"
	"strings"

	"cupel/api"
)

// Print is a tree as a text, in its one form; of nodes that are not as they should be what there is of them.
func Print(n api.Node) string {
	var p printer
	p.node(n)
	return p.out.String()
}

// printer gathers a text.
type printer struct{ out strings.Builder }

func (p *printer) say(parts ...string) {
	for _, part := range parts {
		p.out.WriteString(part)
	}
}

// node prints a node of any kind.
func (p *printer) node(n api.Node) {
	switch {
	case n.Kind < api.NodeBlock:
		p.declaration(n)
	case n.Kind < api.NodeInt:
		p.statement(n)
	default:
		p.expression(n)
	}
}

// kid prints a node's kid; nothing, if it has none there.
func (p *printer) kid(n api.Node, i int) {
	if i >= 0 && i < len(n.Kids) {
		p.node(n.Kids[i])
	}
}

// list prints nodes with commas between them.
func (p *printer) list(nodes []api.Node) {
	for i, n := range nodes {
		if i > 0 {
			p.say(", ")
		}
		p.node(n)
	}
}

// declaration prints a program, what it declares, and the parameters of that.
func (p *printer) declaration(n api.Node) {
	switch n.Kind {
	case api.NodeProgram:
		for _, d := range n.Kids {
			p.node(d)
			p.say("\n")
		}
	case api.NodeGlobal:
		p.say("var ", n.S, " ", TypeName(n.T), " = ")
		p.kid(n, 0)
		p.say(";")
	case api.NodeFunc:
		last := len(n.Kids) - 1 // the block stands behind the parameters
		p.say("func ", n.S, "(")
		p.list(n.Kids[:max(last, 0)])
		p.say(") ", TypeName(n.T), " ")
		p.kid(n, last)
	case api.NodeTest:
		p.say("test ", n.S, " ")
		p.kid(n, 0)
	case api.NodeParam:
		p.say(n.S, " ", TypeName(n.T))
	}
}

// statement prints a statement, or a block of them.
func (p *printer) statement(n api.Node) {
	switch n.Kind {
	case api.NodeBlock:
		p.block(n)
	case api.NodeDefine:
		p.line(n.S+" := ", n)
	case api.NodeAssign:
		p.line(n.S+" = ", n)
	case api.NodeIf:
		p.branches(n)
	case api.NodeFor:
		p.say("for ")
		p.kid(n, 0)
		p.say(" ")
		p.kid(n, 1)
	case api.NodeReturn:
		p.line("return ", n)
	case api.NodeAssert:
		p.line("assert ", n)
	case api.NodeDo:
		p.line("", n)
	case api.NodeSkip:
		p.say("skip;")
	}
}

// line prints what stands ahead of a statement's expression, it, and the end.
func (p *printer) line(head string, n api.Node) {
	p.say(head)
	p.kid(n, 0)
	p.say(";")
}

func (p *printer) block(n api.Node) {
	p.say("{")
	for _, statement := range n.Kids {
		p.say(" ")
		p.node(statement)
	}
	p.say(" }")
}

func (p *printer) branches(n api.Node) {
	p.say("if ")
	p.kid(n, 0)
	p.say(" ")
	p.kid(n, 1)
	if len(n.Kids) > 2 {
		p.say(" else ")
		p.kid(n, 2)
	}
}

func (p *printer) expression(n api.Node) {
	switch n.Kind {
	case api.NodeInt:
		p.say(strconv.FormatInt(n.N, 10))
	case api.NodeFloat:
		if n.N < 0 { // of the bits the highest one is the sign, nought's too
			p.say("-")
		}
		p.say(n.S)
	case api.NodeBool:
		p.say(strconv.FormatBool(n.N != 0))
	case api.NodeVar:
		p.say(n.S)
	case api.NodeCall:
		p.say(n.S, "(")
		p.list(n.Kids)
		p.say(")")
	case api.NodeUnary:
		p.say(n.S)
		p.kid(n, 0)
	case api.NodeBin:
		p.say("(")
		p.kid(n, 0)
		p.say(" ", n.S, " ")
		p.kid(n, 1)
		p.say(")")
	case api.NodeConv:
		p.say(TypeName(n.T), "(")
		p.kid(n, 0)
		p.say(")")
	}
}
