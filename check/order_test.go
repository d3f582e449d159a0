package check

import (
	"testing"

	"cupel/api"
)

// Promise 12.1: a function ends in a return on each way.
func TestReturnsAtTheEnd(t *testing.T) {
	for _, s := range []string{
		"return 1;", "skip; return 1;", "return 1; return 2;", "skip; return 1; skip; return 2;", "assert true; x := 1; x = 2; f(); return x;",
		"if true { return 1; } else { return 2; }", "skip; if true { skip; return 1; } else { x := 2; return x; }", "if true { return 1; } return 2;", "for true { } return 1;", "for true { return 1; } return 2;", "if true { } else { } return 1;",
		"if true { return 1; } else if false { return 2; } else { return 3; }", "if true { if false { return 1; } else { return 2; } } else { return 3; }",
		"if true { if false { return 1; } else { return 2; } } else { if true { return 3; } else if false { return 4; } else { if true { return 5; } else { return 6; } } }",
		"if true { for true { } return 1; } else { if true { } return 2; }",
	} {
		taken(t, "func f() int { "+s+" }")
	}
	for _, s := range []string{
		"", "skip;", "x := 1;", "assert false;", "f();", "x := 1; x = 2;", "return 1; skip;", "return 1; x := 2;", "return 1; f();", "return 1; assert true;", "return 1; for true { }", "return 1; if true { }", "return 1; if true { return 1; }",
		"if true { return 1; }", "skip; if true { return 1; }", "if true { return 1; } else { }", "if true { } else { return 1; }", "if true { } else { }", "if true { return 1; } else { skip; }", "if true { return 1; skip; } else { return 1; }", "if true { return 1; } else { return 1; skip; }",
		"if true { return 1; } else { return 2; } skip;", "if true { return 1; } else if false { return 2; }", "if true { return 1; } else if false { } else { return 2; }", "if true { return 1; } else if false { return 2; } else { }", "if true { if false { return 1; } } else { return 3; }", "if true { return 3; } else { if false { return 1; } }",
		"for true { return 1; }", "for true { if true { return 1; } else { return 2; } }", "if true { for true { return 1; } } else { return 1; }", "for true { }",
	} {
		refused(t, "func f() int { "+s+" }", 0, api.ErrReturn)
		refused(t, "test t { } func f() int { "+s+" } test s { return 1; }", 1, api.ErrReturn)
	}
	for _, kind := range []string{"int", "float", "bool"} {
		refused(t, "func f(a "+kind+") "+kind+" { }", 0, api.ErrReturn)
		taken(t, "func f(a "+kind+") "+kind+" { return a; }")
	}
}

// Promise 12.1: tests have no return, of whatever type.
func TestReturnsInTests(t *testing.T) {
	for _, s := range []string{"return 1;", "return 1.5;", "return true;", "skip; return 1; skip;", "if true { return 1; }", "if true { } else { return 1; }", "if true { } else if true { return 1; }", "for true { skip; return true; }", "x := 1; return x;", "return f();", "return 1; return 2;"} {
		refused(t, "test t { "+s+" } func f() int { return 1; }", 0, api.ErrReturn)
		refused(t, "func f() int { return 1; } test t { "+s+" }", 1, api.ErrReturn)
	}
	taken(t, "test t { } test s { if true { } else { } }")
}

// Promise 12.1: of the reasons of one declaration the first one is told, in the order of its text, kids ahead of their node.
func TestFirstReason(t *testing.T) {
	const behind = " func f(a int) int { return a; } func g(a int, b float) int { return a; } var k int = 1;"
	rows := []struct {
		s   string
		why api.Errno
	}{
		// One statement behind the other.
		{"y = 1; assert 1;", api.ErrKnown}, {"assert 1; y = 1;", api.ErrType}, {"f(); h();", api.ErrCount}, {"h(); f();", api.ErrKnown}, {"x := 1; x := 2; y = 1;", api.ErrTwice}, {"x := 1; y = 1; x := 2;", api.ErrKnown},
		{"return 1; y = 1;", api.ErrReturn}, {"y = 1; return 1;", api.ErrKnown}, {"k := 1; return 1;", api.ErrTwice}, {"return 1; k := 1;", api.ErrReturn}, {"f(1, 2); k := 1;", api.ErrCount}, {"x := 1 + 1.5; f();", api.ErrType},
		// Within blocks.
		{"if true { assert 1; } y = 1;", api.ErrType}, {"if true { y = 1; } else { assert 1; }", api.ErrKnown}, {"if true { assert 1; } else { y = 1; }", api.ErrType}, {"for true { f(); } assert 1;", api.ErrCount}, {"for true { return 1; } f();", api.ErrReturn},
		{"if 1 { y = 1; }", api.ErrType}, {"if y { assert 1; }", api.ErrKnown}, {"for 1 { y = 1; }", api.ErrType}, {"for f() { assert 1; }", api.ErrCount}, {"if true { y = 1; } else if 1 { }", api.ErrKnown}, {"if 1 { } else if y { }", api.ErrType}, {"if f(1) { f(); } else { y = 1; }", api.ErrType},
		// A statement's expression ahead of itself.
		{"y = f();", api.ErrCount}, {"y = 1 + 1.5;", api.ErrType}, {"y = h();", api.ErrKnown}, {"k := f();", api.ErrCount}, {"k := y;", api.ErrKnown}, {"k := !1;", api.ErrType}, {"x := 1; x := x + 1.5;", api.ErrType}, {"return y;", api.ErrKnown}, {"return f();", api.ErrCount}, {"return -true;", api.ErrType},
		{"assert f();", api.ErrCount}, {"assert 1 + y;", api.ErrKnown}, {"k = f();", api.ErrCount}, {"k = y;", api.ErrKnown}, {"if 1 + y { }", api.ErrKnown}, {"for f() { }", api.ErrCount},
		// Operands, from the left, ahead of the sign.
		{"x := y + f();", api.ErrKnown}, {"x := f() + y;", api.ErrCount}, {"x := (1 + 1.5) + y;", api.ErrType}, {"x := y + (1 + 1.5);", api.ErrKnown}, {"x := true + f();", api.ErrCount}, {"x := true + y;", api.ErrKnown}, {"x := true + f(1 + true);", api.ErrType}, {"x := -f();", api.ErrCount}, {"x := !y;", api.ErrKnown}, {"x := int(y);", api.ErrKnown}, {"x := int(f());", api.ErrCount}, {"x := int(!1);", api.ErrType},
		{"x := f() && y;", api.ErrCount}, {"x := 1 && y;", api.ErrKnown}, {"x := y * 2 + f();", api.ErrKnown}, {"x := f() + y * 2;", api.ErrCount},
		// Arguments, from the left, ahead of the call; of the call that it is not known, then its count, then types.
		{"h(f());", api.ErrCount}, {"h(1 + 1.5);", api.ErrType}, {"h(y);", api.ErrKnown}, {"f(y, 1);", api.ErrKnown}, {"f(!1, 1);", api.ErrType}, {"f(f(), y);", api.ErrCount}, {"f(y, f());", api.ErrKnown}, {"g(true, y);", api.ErrKnown}, {"g(true, f());", api.ErrCount}, {"g(true, 1 + true);", api.ErrType},
		{"f(1.5, 1);", api.ErrCount}, {"g(1.5);", api.ErrCount}, {"g(true);", api.ErrCount}, {"f(true);", api.ErrType}, {"g(1, 1);", api.ErrType}, {"g(1.5, 1.5);", api.ErrType}, {"x := f(1.5) + y;", api.ErrType}, {"h(1.5, true);", api.ErrKnown}, {"y = f(1.5, 1);", api.ErrCount}, {"y = f(1.5);", api.ErrType}, {"y = 1.5;", api.ErrKnown},
	}
	for _, row := range rows {
		refused(t, "test t { "+row.s+" }"+behind, 0, row.why)
		refused(t, "test s { } test t { skip; "+row.s+" skip; }"+behind, 1, row.why)
		if row.why != api.ErrReturn {
			refused(t, "func t(a int) float { "+row.s+" }"+behind, 0, row.why) // one that is missing is told behind all else
		}
	}
}

// Promise 12.1: parameters are ahead of the block, each behind the other; a return that is missing is behind all of it.
func TestFirstReasonOfFunctions(t *testing.T) {
	refused(t, "func f(a int, a int) int { y = 1; }", 0, api.ErrTwice)
	refused(t, "func f(a int, a int) int { return 1.5; }", 0, api.ErrTwice)
	refused(t, "func f(a int) int { y = 1; a := 1; }", 0, api.ErrKnown)
	refused(t, "func f(a int) int { a := 1; y = 1; }", 0, api.ErrTwice)
	refused(t, "func f() int { return 1.5; y = 1; }", 0, api.ErrType)
	refused(t, "func f() int { y = 1; return 1.5; }", 0, api.ErrKnown)
	refused(t, "func f() int { return y; }", 0, api.ErrKnown)
	refused(t, "func f() int { return f(1.5); }", 0, api.ErrCount)
	refused(t, "func f(a int) int { if true { return 1; } f(); }", 0, api.ErrCount)
	refused(t, "func f(a int) int { if true { return 1; } else { f(1.5); } }", 0, api.ErrType)
	refused(t, "func f(a int) int { skip; } func f(a int) int { return 1; }", 0, api.ErrReturn)
	refused(t, "var g int = true; func f() int { }", 0, api.ErrType)
}

// Promise 12.1: of two declarations that are rejected the first is told.
func TestFirstDeclaration(t *testing.T) {
	wrong := []struct {
		s   string
		why api.Errno
	}{
		{"var N int = 1.5;", api.ErrType}, {"func N() int { }", api.ErrReturn}, {"func N() int { return y; }", api.ErrKnown}, {"func N(a int) int { return N(); }", api.ErrCount}, {"test N { return 1; }", api.ErrReturn}, {"test N { x := 1; x := 2; }", api.ErrTwice}, {"test N { assert 1; }", api.ErrType}, {"test ok { }", api.ErrTwice},
	}
	rename := func(s string, by string) string {
		out := ""
		for _, r := range s {
			if r == 'N' {
				out += by
			} else {
				out += string(r)
			}
		}
		return out
	}
	for _, a := range wrong {
		for _, b := range wrong {
			refused(t, "test ok { } "+rename(a.s, "one")+" "+rename(b.s, "two"), 1, a.why)
			refused(t, "test ok { } "+rename(a.s, "one")+" func fine() int { return 1; } "+rename(b.s, "two"), 1, a.why)
			refused(t, "test ok { } var fine int = 1; func finer() int { return fine; } "+rename(b.s, "two")+" "+rename(a.s, "one"), 3, b.why)
		}
	}
}

// Rules R2 and R4: what is answered is the caller's own, and told the same again.
func TestAnswersAreOwn(t *testing.T) {
	n := treeOf(t, "var g int = 1; func f(a int) int { x := a + g; return x; } test t { assert f(1) == 2; }")
	got := accepts(t, "a program", n)
	again, _, _ := Program(n)
	spoil(&got)
	third, place, e := Program(n)
	if place != 0 || e != api.OK {
		t.Errorf("what was answered is shared: %d, %d", place, e)
	}
	for place, a := range again.Kids {
		if b := third.Kids[place]; a.S != b.S || a.T != b.T || a.Kind != b.Kind {
			t.Errorf("told otherwise: %v, %v", a, b)
		}
	}
	spoil(&n)
	if again.Kids[1].Kids[1].Kids[0].Kids[0].T != api.TypeInt || again.Kids[2].Kids[0].Kids[0].Kind != api.NodeAssert {
		t.Errorf("what is answered hangs on what was handed in")
	}
}

func spoil(n *api.Node) {
	for i := range n.Kids {
		spoil(&n.Kids[i])
	}
	*n = api.Node{Kind: 99, Kids: n.Kids}
}
