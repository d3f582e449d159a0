package check

import (
	"strings"
	"testing"

	"cupel/api"
	"cupel/ast"
)

// Of the chapter: between which types a sign may stand, and what comes of it; i is a whole number, f one with a point, b yes or no.
var signTable = []struct{ signs, fit string }{
	{"+ - * /", "iii fff"},
	{"%", "iii"},
	{"< <= > >=", "iib ffb"},
	{"== !=", "iib ffb bbb"},
	{"&& ||", "bbb"},
}

// What has each type, in words that a program may have.
var (
	letters = []string{"", "i", "f", "b"}
	ofType  = [][]string{nil,
		{"1", "0", "i", "gi", "fi()", "int(1.5)", "(1 + 2)", "-1", "(i % 2)"},
		{"1.5", "0.0", "f", "gf", "ff()", "float(1)", "(1.5 * 2.5)", "-0.0"},
		{"true", "false", "b", "gb", "fb()", "!true", "(1 < 2)", "(true && b)", "(1.5 == 2.5)", "(b != b)"},
	}
)

const (
	aheadTypes  = "var gi int = 1; var gf float = 1.5; var gb bool = true; "
	behindTypes = " func fi() int { return 1; } func ff() float { return 1.5; } func fb() bool { return true; }"
	makeKnown   = "i := 1; f := 1.5; b := true; "
)

// line tells of a statement in a test, and in functions of all types: whether it is accepted, or rejected with ErrType.
func line(t *testing.T, s string, fits bool) {
	t.Helper()
	for _, text := range []string{
		aheadTypes + "test t { " + makeKnown + s + " }" + behindTypes,
		aheadTypes + "func t(i int, f float, b bool) float { " + s + " return f; }" + behindTypes,
		aheadTypes + "func t(f float, b bool, i int) bool { for true { if true { } else if b { " + s + " } } return b; }" + behindTypes,
	} {
		n := treeOf(t, text)
		if fits {
			accepts(t, short(s), n)
		} else {
			rejects(t, short(s), n, 3, api.ErrType)
		}
	}
}

// has tells that an expression has a type: by what may be done with it, and by what is told.
func has(t *testing.T, s string, want int) {
	t.Helper()
	for _, other := range []int{api.TypeInt, api.TypeFloat, api.TypeBool} {
		line(t, ofType[other][2]+" = "+s+";", other == want)
	}
	n := accepts(t, short(s), treeOf(t, aheadTypes+"test t { "+makeKnown+"x := "+s+"; }"+behindTypes))
	if len(n.Kids) > 3 {
		same(t, s, n.Kids[3].Kids[0].Kids[3].Kids[0].T, want)
	}
}

// Promise 12.1: each sign with each pair of types.
func TestSignsBetween(t *testing.T) {
	for _, row := range signTable {
		for _, sign := range strings.Fields(row.signs) {
			for a := api.TypeInt; a <= api.TypeBool; a++ {
				for b := api.TypeInt; b <= api.TypeBool; b++ {
					signBetween(t, sign, row.fit, a, b)
				}
			}
		}
	}
}

func signBetween(t *testing.T, sign, fit string, a, b int) {
	t.Helper()
	result := 0
	for want := api.TypeInt; want <= api.TypeBool; want++ {
		if strings.Contains(" "+fit+" ", " "+letters[a]+letters[b]+letters[want]+" ") {
			result = want
		}
	}
	for i, x := range ofType[a] {
		y := ofType[b][i%len(ofType[b])]
		s := x + " " + sign + " " + y
		if result != 0 && i < 3 {
			has(t, s, result)
		}
		line(t, "x := "+s+";", result != 0)
		line(t, "x := "+y+" "+sign+" "+x+";", result != 0) // what fits is the same from both sides
	}
}

// Promise 12.1: signs ahead of each type, and both conversions.
func TestSignsAheadAndConversions(t *testing.T) {
	for kind, list := range ofType {
		for _, s := range list {
			has(t, s, kind)
			line(t, "x := !"+s+";", kind == api.TypeBool)
			line(t, "x := -"+s+";", kind != api.TypeBool)
			line(t, "x := - -"+s+";", kind != api.TypeBool)
			line(t, "x := !!"+s+";", kind == api.TypeBool)
			line(t, "x := !-"+s+";", false)
			line(t, "x := -!"+s+";", false)
			line(t, "x := int("+s+");", kind != api.TypeBool)
			line(t, "x := float("+s+");", kind != api.TypeBool)
			if kind != api.TypeBool {
				has(t, "-"+s, kind)
				has(t, "int("+s+")", api.TypeInt)
				has(t, "float("+s+")", api.TypeFloat)
			} else {
				has(t, "!"+s, kind)
			}
		}
	}
}

// Promise 12.1: conditions and assertions are yes or no, assignments have just the type.
func TestStatementTypes(t *testing.T) {
	for kind, list := range ofType {
		for _, s := range list {
			line(t, "assert "+s+";", kind == api.TypeBool)
			line(t, "if "+s+" { }", kind == api.TypeBool)
			line(t, "if "+s+" { skip; } else { skip; }", kind == api.TypeBool)
			line(t, "if true { } else if "+s+" { }", kind == api.TypeBool)
			line(t, "for "+s+" { }", kind == api.TypeBool)
			for other := api.TypeInt; other <= api.TypeBool; other++ {
				line(t, letters[other]+" = "+s+";", kind == other)
				line(t, "g"+letters[other]+" = "+s+";", kind == other)
				line(t, "x := "+ofType[other][0]+"; x = "+s+";", kind == other)
			}
		}
	}
}

// Promise 12.1: arguments and returns have just the type, and so have the literals of globals.
func TestDeclaredTypes(t *testing.T) {
	words := []string{"", "int", "float", "bool"}
	for kind, list := range ofType {
		for _, s := range list {
			for want := api.TypeInt; want <= api.TypeBool; want++ {
				behind := " func h(a " + words[want] + ", b bool, c " + words[want] + ") int { return 1; }"
				fine := ofType[want][0]
				for _, text := range []string{
					aheadTypes + "test t { " + makeKnown + "h(" + s + ", b, " + fine + "); }" + behindTypes + behind,
					aheadTypes + "test t { " + makeKnown + "x := h(" + fine + ", b, " + s + "); }" + behindTypes + behind,
					aheadTypes + "func t(i int, f float, b bool) " + words[want] + " { return " + s + "; }" + behindTypes,
					aheadTypes + "func t(i int, f float, b bool) " + words[want] + " { if b { return " + s + "; } return " + fine + "; }" + behindTypes,
					aheadTypes + "func t(i int, f float, b bool) " + words[want] + " { for b { return " + s + "; } return " + fine + "; }" + behindTypes,
				} {
					if kind == want {
						accepts(t, short(text), treeOf(t, text))
					} else {
						rejects(t, short(text), treeOf(t, text), 3, api.ErrType)
					}
				}
			}
		}
	}
	for kind, list := range [][]string{nil, {"0", "1", "-1", "9223372036854775807", "-9223372036854775807"}, {"0.0", "-0.0", "1.5", "-123456789012.345"}, {"true", "false"}} {
		for _, s := range list {
			for want := api.TypeInt; want <= api.TypeBool; want++ {
				text := "var g " + words[want] + " = " + s + ";"
				if kind == want {
					same(t, text, taken(t, text).Kids[0].Kids[0].T, want)
				} else {
					refused(t, text, 0, api.ErrType)
				}
			}
		}
	}
}

// Promise 12.1: the type of each expression, in a program that has all of them.
func TestAllTypes(t *testing.T) {
	n := taken(t, `
		var w int = -5; var p float = -0.0; var q bool = false;
		func mix(a int, b float, c bool) float {
			d := float(a) + b * 2.0;
			if c && !q || a % 3 == 1 { d = -d; } else if b >= p { return p; } else { w = int(d) - a / 2; }
			for w < 10 { w = w + 1; mix(w, d, c != true); }
			return mix(-a, (b), d == p);
		}
		test t { x := mix(1, 2.5, true); assert x <= 1.5 || x > 0.0; skip; assert !(w == 2); }`)
	want := strings.Fields(`
		int:-5 float:-0.0 bool:false
		float:(float(a)+(b*2.0)) float:float(a) int:a float:(b*2.0) float:b float:2.0
		bool:((c&&!q)||((a%3)==1)) bool:(c&&!q) bool:c bool:!q bool:q bool:((a%3)==1) int:(a%3) int:a int:3 int:1
		float:-d float:d
		bool:(b>=p) float:b float:p float:p
		int:(int(d)-(a/2)) int:int(d) float:d int:(a/2) int:a int:2
		bool:(w<10) int:w int:10 int:(w+1) int:w int:1 float:mix(w,d,(c!=true)) int:w float:d bool:(c!=true) bool:c bool:true
		float:mix(-a,b,(d==p)) int:-a int:a float:b bool:(d==p) float:d float:p
		float:mix(1,2.5,true) int:1 float:2.5 bool:true
		bool:((x<=1.5)||(x>0.0)) bool:(x<=1.5) float:x float:1.5 bool:(x>0.0) float:x float:0.0
		bool:!(w==2) bool:(w==2) int:w int:2`)
	var got []string
	for _, spot := range ast.All(n) {
		if spot.Kind >= api.NodeInt {
			got = append(got, ast.TypeName(spot.T)+":"+strings.ReplaceAll(ast.Print(spot), " ", ""))
		} else if spot.T != 0 && spot.Kind != api.NodeGlobal && spot.Kind != api.NodeFunc && spot.Kind != api.NodeParam {
			t.Errorf("a type of what is no expression: %s", ast.Print(spot))
		}
	}
	same(t, "the types", strings.Join(got, "\n"), strings.Join(want, "\n"))
}

// Promise 12.1: types that a tree brings along do not count, but those of conversions.
func TestTypesAreFoundAnew(t *testing.T) {
	n := treeOf(t, "var g float = 2.5; func f(a int) int { if !(g > float(a)) { return -a * int(g); } return f(a + 1); } test t { assert f(1) == 1 && true; }")
	want := accepts(t, "a tree without types", n)
	for _, other := range []int{api.TypeInt, api.TypeFloat, api.TypeBool, 0, 4, -1, 1 << 40} {
		m := ast.Clone(n)
		for place, spot := range ast.All(n) {
			if spot.Kind >= api.NodeInt && spot.Kind != api.NodeConv {
				spot.T = other
				m = ast.Replace(m, place, spot)
			}
		}
		got := accepts(t, "a tree with other types", m)
		same(t, "its types", ast.Same(got, want), true)
	}
	refused(t, "test t { x := int(1.5) + 1.5; }", 0, api.ErrType)
	refused(t, "test t { x := float(1) + 1; }", 0, api.ErrType)
}
