package interp

import (
	"cupel/api"
	"cupel/val"
)

// call is a call that is under way, or the test itself.
type call struct {
	*machine
	depth  int                  // how many calls are under way, with this one; 0: it is the test
	names  map[string]api.Value // of parameters and of names; a name of an ended block is not asked for, but made known again first
	answer api.Value            // what was returned
}

// block runs one: whether the call has returned.
func (c *call) block(n node) bool {
	c.step(n)
	for _, kid := range n.kids {
		if c.statement(kid) {
			return true
		}
	}
	return false
}

// statement runs one: whether the call has returned.
func (c *call) statement(n node) bool {
	c.step(n)
	switch n.Kind {
	case api.NodeIf:
		return c.branch(n)
	case api.NodeFor:
		return c.loop(n)
	case api.NodeReturn:
		c.answer = c.expression(n.kids[0])
		return true
	case api.NodeDefine:
		c.names[n.S] = c.expression(n.kids[0])
	case api.NodeAssign:
		c.assign(n.S, c.expression(n.kids[0]))
	case api.NodeAssert:
		if !val.True(c.expression(n.kids[0])) {
			need(api.TrapAssert)
		}
	case api.NodeDo:
		c.expression(n.kids[0])
	}
	return false // skip has nothing to do
}

// branch runs an if, whose step was taken: whether the call has returned.
func (c *call) branch(n node) bool {
	if val.True(c.expression(n.kids[0])) {
		return c.block(n.kids[1])
	}
	return len(n.kids) > 2 && c.block(n.kids[2])
}

// loop runs a loop, whose step was taken: whether the call has returned.
func (c *call) loop(n node) bool {
	for val.True(c.expression(n.kids[0])) { // its steps end it, if nothing else does
		if c.block(n.kids[1]) {
			return true
		}
	}
	return false
}

// assign gives a variable a value. No name of a call is a global's.
func (c *call) assign(name string, v api.Value) {
	if _, is := c.names[name]; is {
		c.names[name] = v
	} else {
		c.globals[name] = v
	}
}

// variable is the value of one.
func (c *call) variable(name string) api.Value {
	if v, is := c.names[name]; is {
		return v
	}
	return c.globals[name]
}
