package parse

import "cupel/api"

const mostStatements = 32 // of one block

func (p *parser) block() api.Node {
	n := api.Node{Kind: api.NodeBlock}
	p.open("{")
	for !p.sees("}") {
		p.room(len(n.Kids), mostStatements)
		n.Kids = append(n.Kids, p.statement())
	}
	p.shut("}")
	return p.made(n)
}

func (p *parser) statement() api.Node {
	switch p.next().S {
	case "if":
		return p.branches()
	case "for":
		return p.loop()
	case "return":
		return p.line(api.NodeReturn)
	case "assert":
		return p.line(api.NodeAssert)
	case "skip":
		p.pass()
		p.want(";")
		return p.made(api.Node{Kind: api.NodeSkip})
	}
	return p.named()
}

func (p *parser) branches() api.Node {
	n := api.Node{Kind: api.NodeIf}
	p.open("if")
	n.Kids = append(n.Kids, p.expression(lowestRank), p.block())
	if p.sees("else") {
		p.pass()
		n.Kids = append(n.Kids, p.otherwise())
	}
	p.depth--
	return p.made(n)
}

// otherwise is the block behind an else. One that is not written, around another if, goes no deeper: no word does.
func (p *parser) otherwise() api.Node {
	if !p.sees("if") {
		return p.block()
	}
	n := api.Node{Kind: api.NodeBlock}
	n.Kids = append(n.Kids, p.branches())
	return p.made(n)
}

func (p *parser) loop() api.Node {
	n := api.Node{Kind: api.NodeFor}
	p.want("for")
	n.Kids = append(n.Kids, p.expression(lowestRank), p.block())
	return p.made(n)
}

// line is a statement whose first word tells its kind, and an expression.
func (p *parser) line(kind int) api.Node {
	p.pass()
	return p.ended(api.Node{Kind: kind}, p.expression(lowestRank))
}

// ended is a statement with its one kid, behind its end.
func (p *parser) ended(n, kid api.Node) api.Node {
	n.Kids = append(n.Kids, kid)
	p.want(";")
	return p.made(n)
}

// named is a statement that begins with a name.
func (p *parser) named() api.Node {
	n := api.Node{Kind: api.NodeDefine, S: p.name()}
	switch p.next().S {
	case ":=":
	case "=":
		n.Kind = api.NodeAssign
	default:
		return p.ended(api.Node{Kind: api.NodeDo}, p.call(n.S))
	}
	p.pass()
	return p.ended(n, p.expression(lowestRank))
}
