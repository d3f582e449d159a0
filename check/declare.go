package check

import "cupel/api"

func (c *checker) declaration(n *api.Node) {
	switch n.Kind {
	case api.NodeGlobal, api.NodeFunc, api.NodeTest:
	default:
		reject(api.ErrTree)
	}
	if c.taken[n.S] > 0 {
		reject(api.ErrTwice)
	}
	c.taken[n.S]++
	if n.Kind == api.NodeGlobal {
		c.global(n)
	} else {
		c.body(n)
	}
}

func (c *checker) global(n *api.Node) {
	for i := range n.Kids {
		c.constant(&n.Kids[i])
	}
	fits(*n, n.T)
	c.done(*n)
	c.globals++
	limit(c.globals, api.MaxGlobals)
}

// body looks at a function, or a test.
func (c *checker) body(n *api.Node) {
	c.inTest, c.answers = n.Kind == api.NodeTest, n.T
	last := len(n.Kids) - 1 // the block stands behind the parameters
	for i := range n.Kids {
		if i < last && !c.inTest {
			c.parameter(&n.Kids[i])
		} else {
			c.block(&n.Kids[i])
		}
	}
	c.forget(0)
	c.done(*n)
	c.bodies++
	limit(c.bodies, api.MaxFuncs)
	if !c.inTest && !ends(n.Kids[last]) { // told behind all else
		reject(api.ErrReturn)
	}
}

// limit rejects a declaration that is one more than a text may have.
func limit(have, most int) {
	if have > most {
		reject(api.ErrTree)
	}
}

func (c *checker) parameter(n *api.Node) {
	if n.Kind != api.NodeParam {
		reject(api.ErrTree)
	}
	c.expressions(n.Kids) // it has none, if a text has it
	c.know(n.S, n.T)
	c.done(*n)
}

// know makes a name known, to the end of the block that is looked at.
func (c *checker) know(name string, t int) {
	if _, known := c.variables[name]; known {
		reject(api.ErrTwice)
	}
	c.variables[name] = t
	c.passing = append(c.passing, name)
}

// forget ends a block: of the names that pass only so many are still known.
func (c *checker) forget(left int) {
	for _, name := range c.passing[left:] {
		delete(c.variables, name)
	}
	c.passing = c.passing[:left]
}

// ends tells whether a block, or a statement, ends in a return on each way.
func ends(n api.Node) bool {
	switch n.Kind {
	case api.NodeReturn:
		return true
	case api.NodeBlock:
		return len(n.Kids) > 0 && ends(n.Kids[len(n.Kids)-1])
	case api.NodeIf:
		return len(n.Kids) == 3 && ends(n.Kids[1]) && ends(n.Kids[2])
	}
	return false
}
