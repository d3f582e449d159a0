package kill

import (
	"reflect"
	"strings"
	"testing"

	"cupel/api"
	"cupel/ast"
	"cupel/check"
	"cupel/parse"
)

// fails tells that a text has no program, where, and why.
func fails(t *testing.T, s string, at int, want api.Errno) {
	t.Helper()
	for range 2 {
		p, place, e := Source(s)
		same(t, short(s)+": the error", e, want)
		same(t, short(s)+": the place", place, at)
		if !reflect.DeepEqual(p, api.Node{}) {
			t.Errorf("%s: %v beside an error", short(s), p)
		}
	}
}

// Promise 17.1: a text that is no program fails at the byte that parse tells, with its error.
func TestSourceThatIsNoText(t *testing.T) {
	fails(t, "func f(", 7, api.ErrParse)
	fails(t, "test t { assert true }", 21, api.ErrParse)
	fails(t, "test t { } ; ", 11, api.ErrParse)
	fails(t, "1", 0, api.ErrParse)
	fails(t, "test t { # }", 9, api.ErrLex)
	fails(t, strings.Repeat("test t { } ", api.MaxFuncs+1), 11*api.MaxFuncs, api.ErrMany)
	fails(t, "test t { "+strings.Repeat("skip; ", 33)+"}", 9+6*32, api.ErrMany)
	deep := "test t { assert " + strings.Repeat("(", api.MaxDepth-1)
	fails(t, deep+"(", len(deep), api.ErrMany)
}

// Promise 17.1: a text that is too long fails as parse has it.
func TestSourceThatIsTooLong(t *testing.T) {
	for _, s := range []string{strings.Repeat(" ", api.MaxSource+1), strings.Repeat("#", api.MaxSource+1), "test t { }" + strings.Repeat(" ", 1<<20)} {
		_, at, e := parse.Program(s)
		if e == api.OK {
			t.Errorf("%s is a text", short(s))
		}
		fails(t, s, at, e)
	}
	sourceOf(t, "test t { }"+strings.Repeat(" ", api.MaxSource-10))
}

// Promise 17.1: a text whose program check rejects fails at the declaration that check tells, with its error.
func TestSourceThatIsRejected(t *testing.T) {
	fails(t, "func f() int { return 1.0; }", 0, api.ErrType)
	fails(t, "test t { } func f() int { return 1.0; }", 1, api.ErrType)
	fails(t, "test t { } var v int = 1; test t { }", 2, api.ErrTwice)
	fails(t, "var v int = 1; test t { v = w; }", 1, api.ErrKnown)
	fails(t, "func f(a int) int { return a; } test t { } test u { f(); } test w { f(); }", 2, api.ErrCount)
	fails(t, "test t { } test u { } test w { return 1; }", 2, api.ErrReturn)
	fails(t, "func f() int { }", 0, api.ErrReturn)
}

// Promise 17.1: what is no text is told ahead of what check rejects.
func TestSourceFailsInParseFirst(t *testing.T) {
	fails(t, "test t { assert 1; } test t { assert }", 37, api.ErrParse)
	fails(t, "test t { return 1; } test t { } $", 32, api.ErrLex)
}

// Promise 17.1: of a text that may be it is the checked program: each expression has its type.
func TestSource(t *testing.T) {
	p := sourceOf(t, "var v float = 1.5; func f(a int) bool { return a < 2 && v > 0.0; } test t { assert f(1); }")
	same(t, "how it reads", ast.Print(p), "var v float = 1.5;\nfunc f(a int) bool { return ((a < 2) && (v > 0.0)); }\ntest t { assert f(1); }\n")
	and := p.Kids[1].Kids[1].Kids[0].Kids[0]
	same(t, "the type of &&", and.T, api.TypeBool)
	same(t, "the type of a", and.Kids[0].Kids[0].T, api.TypeInt)
	same(t, "the type of v", and.Kids[1].Kids[0].T, api.TypeFloat)
	same(t, "the type of f(1)", p.Kids[2].Kids[0].Kids[0].Kids[0].T, api.TypeBool)
	sameTree(t, "no text", sourceOf(t, ""), program())
	sameTree(t, "nothing in a text", sourceOf(t, " \n\t "), program())
}

// Promise 17.1: cut anywhere, or with any byte otherwise, a text's program is what parse and check have.
func TestSourceOfAnyText(t *testing.T) {
	s := "var v float = -1.5;\nfunc f(a int, b bool) int { x := a * 2; if b { x = -x; } else { f(1, true); } return int(v) + x; }\ntest t { for false { skip; } assert f(1, 2 >= 3) != 7; }"
	texts := []string{s}
	for i := range s {
		texts = append(texts, s[:i], s[i:])
		for _, by := range []string{"#", ";", "1", "a", " ", "(", "\x00", "\xff"} {
			texts = append(texts, s[:i]+by+s[i+1:])
		}
	}
	tally := map[string]int{}
	for _, text := range texts {
		n, at, e := parse.Program(text)
		if e != api.OK {
			tally["parse"]++
			fails(t, text, at, e)
			continue
		}
		want, at, e := check.Program(n)
		if e != api.OK {
			tally["check"]++
			fails(t, text, at, e)
			continue
		}
		tally["ok"]++
		sameTree(t, short(text), sourceOf(t, text), want)
	}
	if tally["parse"] < 100 || tally["check"] < 30 || tally["ok"] < 30 {
		t.Errorf("too few of a sort: %v", tally)
	}
}

// Rule R2: two answers of one text share nothing.
func TestSourceIsTheCallersOwn(t *testing.T) {
	const s = "func f(a int) int { return a + 1; } test t { assert f(1) == 2; }"
	p, q := sourceOf(t, s), sourceOf(t, s)
	want := ast.Clone(q)
	p.Kids[0].Kids[1].Kids[0].S = "spoilt"
	p.Kids[0] = api.Node{}
	sameTree(t, "the other one", q, want)
	sameTree(t, "a third one", sourceOf(t, s), want)
}
