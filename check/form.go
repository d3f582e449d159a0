package check

import (
	"cupel/api"
	"cupel/ast"
)

const (
	mostStatements = 32 // of one block
	mostDigits     = 15 // of a number with a point, on both sides together
)

// formed tells whether some text has a node with such a type, text, number and count of kids. The types of expressions are not a text's, but found; what signs there are is told with their types.
func formed(n api.Node) bool {
	kids := len(n.Kids)
	switch n.Kind {
	case api.NodeProgram:
		return isBare(n)
	case api.NodeGlobal:
		return isTyped(n) && kids == 1
	case api.NodeFunc:
		return isTyped(n) && kids >= 1 && kids <= api.MaxParams+1
	case api.NodeParam:
		return isTyped(n) && kids == 0
	case api.NodeTest, api.NodeDefine, api.NodeAssign:
		return n.T == 0 && n.N == 0 && isName(n.S) && kids == 1
	case api.NodeBlock:
		return isBare(n) && kids <= mostStatements
	case api.NodeIf:
		return isBare(n) && (kids == 2 || kids == 3)
	case api.NodeFor:
		return isBare(n) && kids == 2
	case api.NodeReturn, api.NodeAssert, api.NodeDo:
		return isBare(n) && kids == 1
	case api.NodeSkip:
		return isBare(n) && kids == 0
	}
	return formedExpression(n)
}

func formedExpression(n api.Node) bool {
	kids := len(n.Kids)
	switch n.Kind {
	case api.NodeInt:
		return n.S == "" && n.N >= 0 && kids == 0
	case api.NodeFloat:
		return isDigits(n.S) && n.N == ast.Bits(n.S) && kids == 0
	case api.NodeBool:
		return n.S == "" && (n.N == 0 || n.N == 1) && kids == 0
	case api.NodeVar:
		return n.N == 0 && isName(n.S) && kids == 0
	case api.NodeCall:
		return n.N == 0 && isName(n.S) && kids <= api.MaxParams
	case api.NodeUnary, api.NodeBin:
		return n.N == 0
	}
	return n.N == 0 && n.S == "" // a conversion
}

// isBare tells whether a node has nothing but kids.
func isBare(n api.Node) bool { return n.T == 0 && n.S == "" && n.N == 0 }

// isTyped tells whether a node has a name and a type, and no number.
func isTyped(n api.Node) bool { return ast.TypeName(n.T) != "" && isName(n.S) && n.N == 0 }

// isDigits tells whether a text is digits with a point in their one form, and no more than a text may have.
func isDigits(s string) bool { return len(s) <= mostDigits+1 && ast.Digits(s) == s }

// isName tells whether a text may be a name. (It is that of layer 9, on which this one does not stand.)
func isName(s string) bool {
	if s == "" || len(s) > api.MaxName || isDigit(s[0]) {
		return false
	}
	for i := range len(s) {
		if !isDigit(s[i]) && !isLetter(s[i]) {
			return false
		}
	}
	return !isKept(s)
}

func isDigit(b byte) bool { return b >= '0' && b <= '9' }

func isLetter(b byte) bool { return b >= 'a' && b <= 'z' || b >= 'A' && b <= 'Z' || b == '_' }

// isKept tells whether a word may not be a name.
func isKept(s string) bool {
	switch s {
	case "func", "test", "var", "if", "else", "for", "return", "assert", "skip", "true", "false", "int", "float", "bool":
		return true
	}
	return false
}
