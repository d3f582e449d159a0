package val

import (
	"math"

	"cupel/api"
)

// Known tells whether a sign may stand between two of a type.
func Known(s string, t int) bool {
	switch s {
	case "+", "-", "*", "/", "<", "<=", ">", ">=":
		return isNumber(t)
	case "%":
		return t == api.TypeInt
	case "==", "!=":
		return isType(t)
	case "&&", "||":
		return t == api.TypeBool
	}
	return false
}

// Binary is a sign between two values of one type: the value, and what goes wrong; what may not be is no value.
func Binary(s string, a, b api.Value) (api.Value, int) {
	if a.T != b.T || !Known(s, a.T) {
		return api.Value{}, api.TrapNone
	}
	switch a.T {
	case api.TypeInt:
		return wholes(s, a.N, b.N)
	case api.TypeFloat:
		return numbers(s, Of(a), Of(b)), api.TrapNone
	}
	return Bool(answers(s, True(a), True(b))), api.TrapNone
}

// wholes is a sign between two whole numbers, and what goes wrong.
func wholes(s string, x, y int64) (api.Value, int) {
	switch s {
	case "+":
		return Int(x + y), api.TrapNone
	case "-":
		return Int(x - y), api.TrapNone
	case "*":
		return Int(x * y), api.TrapNone
	case "/", "%":
		return divided(s, x, y)
	}
	return Bool(compared(s, x, y)), api.TrapNone
}

// divided is the quotient of two whole numbers, or the rest, and what goes wrong.
func divided(s string, x, y int64) (api.Value, int) {
	if y == 0 {
		return api.Value{}, api.TrapZero
	}
	if s == "/" {
		return Int(x / y), api.TrapNone
	}
	return Int(x % y), api.TrapNone
}

// numbers is a sign between two numbers with a point; with these nothing goes wrong.
func numbers(s string, x, y float64) api.Value {
	switch s {
	case "+":
		return Float(x + y)
	case "-":
		return Float(x - y)
	case "*":
		return Float(x * y)
	case "/":
		return Float(x / y)
	}
	return Bool(compared(s, x, y))
}

// compared tells what a comparison says of two numbers. (What is no number is unlike all, and neither below nor above any.)
func compared[N int64 | float64](s string, x, y N) bool {
	switch s {
	case "<":
		return x < y
	case "<=":
		return x <= y
	case ">":
		return x > y
	case ">=":
		return x >= y
	case "==":
		return x == y
	}
	return x != y
}

// answers is a sign between yes and no.
func answers(s string, x, y bool) bool {
	switch s {
	case "&&":
		return x && y
	case "||":
		return x || y
	case "==":
		return x == y
	}
	return x != y
}

// Unary is a sign ahead of a value; what may not be is no value.
func Unary(s string, a api.Value) api.Value {
	switch {
	case s == "-" && a.T == api.TypeInt:
		return Int(-a.N)
	case s == "-" && a.T == api.TypeFloat:
		return Float(-Of(a)) // not 0 - it, which would take the sign from nought
	case s == "!" && a.T == api.TypeBool:
		return Bool(!True(a))
	}
	return api.Value{}
}

// Conv is a number's value of another type: the value, and what goes wrong; what may not be is no value.
func Conv(t int, a api.Value) (api.Value, int) {
	switch {
	case t == a.T && isType(t):
		return a, api.TrapNone
	case t == api.TypeFloat && a.T == api.TypeInt:
		return Float(float64(a.N)), api.TrapNone
	case t == api.TypeInt && a.T == api.TypeFloat:
		return cut(Of(a))
	}
	return api.Value{}, api.TrapNone
}

// cut is the whole number that a number is without what stands behind its point, and what goes wrong.
func cut(f float64) (api.Value, int) {
	whole := math.Trunc(f)
	if math.IsNaN(whole) || whole < -1<<63 || whole >= 1<<63 { // 2^63 - 1 would be rounded to 2^63, which is too great
		return api.Value{}, api.TrapConv
	}
	return Int(int64(whole)), api.TrapNone
}
