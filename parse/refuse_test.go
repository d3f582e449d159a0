package parse

import (
	"math/rand"
	"strings"
	"testing"

	"cupel/api"
	"cupel/lex"
)

// Promise 11.1: each error of lex, with its place, ahead of any other.
func TestErrorsOfLex(t *testing.T) {
	for _, s := range []string{"@?", "test t { } @?", "@.5", "test t { assert @1.; }", "@007", "x @9223372036854775808", "var g int = -@9223372036854775808;", "test @abcdefghijklmnopq { }", "@1.234567890123456",
		"} } @# }", "else @\r", "test t { x = ; } @$", "a @& b", "a @| b", "a @: b", "func @\x00", "func @\xff", "@\xc3\xa9", "@\""} {
		marked(t, s, api.ErrLex)
	}
	for _, s := range []string{strings.Repeat(" ", 4097), strings.Repeat("}", 4097), strings.Repeat("?", 10000), "test t { }" + strings.Repeat("\n", 4087)} {
		refuses(t, s, api.MaxSource, api.ErrMany)
	}
	fine(t, "test t { }"+strings.Repeat("\n", 4086))
	refuses(t, strings.Repeat("}", 4096), 0, api.ErrParse)
	refuses(t, "test t { "+strings.Repeat(" ", 4087), 4096, api.ErrParse)
	s := "// a text of nothing but notes" + strings.Repeat("x", 4096)
	fine(t, s[:4096])
	refuses(t, s[:4097], 4096, api.ErrMany)
}

// Promise 11.1: the place of the first word that may not stand there, for each place of the grammar, by hand.
func TestWrongWords(t *testing.T) {
	for _, s := range []string{
		// Declarations.
		"@x", "@1", "@;", "@{ }", "@if", "@return 1;", "@skip;", "@int", "@true", "@else", "@(", "@-", "test t { }@;", "test t { } @}", "var g int = 1; @;", "func f() int { } @{ }",
		// Globals.
		"var @", "var @1", "var @int", "var @var", "var g @", "var g @= 1;", "var g @g", "var g @1", "var g @true", "var g int @", "var g int @1", "var g int @:= 1;", "var g int @== 1;", "var g int @;", "var g int @int",
		"var g int = @", "var g int = @;", "var g int = @x;", "var g int = @!true;", "var g int = @(1);", "var g int = @int(1);", "var g int = @+1;", "var g int = -@", "var g int = -@-1;", "var g bool = -@true;", "var g bool = - @false;",
		"var g int = -@x;", "var g int = -@(1);", "var g int = -@;", "var g int = 1@", "var g int = 1 @+ 1;", "var g int = 1@,", "var g int = 1 @var", "var g int = 1 @}", "var g float = 1.5 @2;", "var g int = -1 @-1;",
		// Functions.
		"func @", "func @(", "func @func", "func @1", "func @int", "func f@", "func f @int", "func f @{ }", "func f @a int", "func f(@", "func f(@,", "func f(@int", "func f(@1", "func f(@(", "func f(a@", "func f(a@)", "func f(a@, b int)", "func f(a @b",
		"func f(a @a int)", "func f(a int@", "func f(a int @b int)", "func f(a int @;", "func f(a int @int", "func f(a int,@", "func f(a int,@) int { }", "func f(a int,@,", "func f(a int, @int b)", "func f(a int, b@)", "func f()@", "func f() @{ }", "func f() @f", "func f() @(", "func f() @= 1",
		"func f() int@", "func f() int @;", "func f() int @int", "func f() int @= 1", "func f() int @return 1;", "func f() int @}", "func f() int { @", "func f() int { } @;",
		// Tests.
		"test @", "test @{ }", "test @test", "test @1", "test @if", "test t@", "test t@() { }", "test t @int { }", "test t @;", "test t @t", "test t @skip; }", "test t @}",
		// Blocks.
		"test t {@", "test t { @;", "test t { @{ } }", "test t { @else", "test t { @var g int = 1; }", "test t { @func", "test t { @test", "test t { @1;", "test t { @1.5;", "test t { @true;", "test t { @int(1);", "test t { @float", "test t { @bool", "test t { @(f)();", "test t { @-1;", "test t { @!b;", "test t { @, }", "test t { @= 1; }", "test t { @:= 1; }", "test t { @)",
		"test t { skip; @;", "test t { skip;@", "test t { skip; } @skip;",
		// Statements that begin with a name.
		"test t { x@", "test t { x@;", "test t { x @}", "test t { x @y", "test t { x @== 1; }", "test t { x @+ 1; }", "test t { x @- 1; }", "test t { x @1", "test t { x @{ }", "test t { x @int", "test t { x @)", "test t { x @, y = 1; }", "test t { x @< 1; }", "test t { x @!", "test t { x @skip;",
		"test t { x := @", "test t { x := @;", "test t { x := @= 1; }", "test t { x := @}", "test t { x := 1@", "test t { x := 1 @}", "test t { x := 1@, y", "test t { x := 1 @2", "test t { x := 1 @= 2; }", "test t { x := 1 @y := 2; }",
		"test t { x = @", "test t { x = @; }", "test t { x = @:= 1; }", "test t { x = @= 1; }", "test t { x = 1@", "test t { x = 1 @}", "test t { x = 1 @skip; }", "test t { x = y @= 1; }", "test t { x = 1 @:= 1; }",
		"test t { f(@", "test t { f(@;", "test t { f(@, 1);", "test t { f(1@", "test t { f(1@;", "test t { f(1 @2);", "test t { f(1, @);", "test t { f(1,@", "test t { f()@", "test t { f() @}", "test t { f() @+ 1; }", "test t { f()@();", "test t { f() @= 1; }", "test t { f() @:= 1; }", "test t { f(1) @skip; }", "test t { f(x @= 1); }", "test t { f(x @int); }", "test t { f(1, 2@} }",
		// Ifs.
		"test t { if @", "test t { if @{ }", "test t { if @;", "test t { if @if", "test t { if @else", "test t { if a@", "test t { if a@;", "test t { if a @else { }", "test t { if a @skip;", "test t { if a @b", "test t { if a @= b { }", "test t { if (a @{ }", "test t { if a { } else @", "test t { if a { } else @;", "test t { if a { } else @}", "test t { if a { } else @else", "test t { if a { } else @skip;", "test t { if a { } else @for a { }",
		"test t { if a { } else if @{ }", "test t { if a { } else if a @}", "test t { if a { } else { } @else { }", "test t { if a { } else if b { } else { } @else { }", "test t { if a { }@;", "test t { if a { } else { }@;", "test t { if a { }@", "test t { if a { } else { }@", "test t { if a { } skip; @else { }", "test t { if a { skip @} }", "test t { if a @:= 1; }",
		// Loops.
		"test t { for @", "test t { for @{ }", "test t { for @;", "test t { for @for", "test t { for a@", "test t { for a@;", "test t { for a @for", "test t { for a @skip;", "test t { for a { }@;", "test t { for a { }@", "test t { for a { } @else { }", "test t { for a { @",
		// Return, assert, skip.
		"test t { return @", "test t { return @; }", "test t { return @}", "test t { return 1@", "test t { return 1 @}", "test t { return 1@, 2; }", "test t { return 1 @return", "test t { assert @", "test t { assert @; }", "test t { assert @}", "test t { assert true@", "test t { assert true @}", "test t { assert x @= 1; }", "test t { skip@", "test t { skip @}", "test t { skip @1; }", "test t { skip@();", "test t { skip @skip",
		// Expressions.
		"test t { x = @*1; }", "test t { x = @/1; }", "test t { x = @+1; }", "test t { x = @< 1; }", "test t { x = @&& 1; }", "test t { x = @bool(1); }", "test t { x = @bool; }", "test t { x = @); }", "test t { x = @, }", "test t { x = @{ }", "test t { x = @skip; }", "test t { x = @func", "test t { x = @var", "test t { x = @else", "test t { x = @return",
		"test t { x = 1 @! 2; }", "test t { x = 1 @(2); }", "test t { x = 1 + @", "test t { x = 1 + @; }", "test t { x = 1 + @* 2; }", "test t { x = 1 && @|| 2; }", "test t { x = 1 + @+ 2; }", "test t { x = 1 < @= 2; }", "test t { x = 1 @y; }", "test t { x = y @1; }", "test t { x = 1 @true; }", "test t { x = y @z; }", "test t { x = 1 @1.5; }", "test t { x = 1 @int(2); }",
		"test t { x = -@; }", "test t { x = -@", "test t { x = !@; }", "test t { x = - @* 1; }", "test t { x = -@); }", "test t { x = -!@}", "test t { x = (@); }", "test t { x = (@; }", "test t { x = (@", "test t { x = (1@; }", "test t { x = (1@", "test t { x = (1@, 2); }", "test t { x = (1 @2); }", "test t { x = (1@}", "test t { x = (1)@); }", "test t { x = (1)@(2); }", "test t { x = (f)@(2); }", "test t { x = ((1)@; }", "test t { x = (x @= 1); }", "test t { x = (1 @= 1); }",
		"test t { x = int@; }", "test t { x = int@", "test t { x = int @1; }", "test t { x = int @{", "test t { x = int(@); }", "test t { x = int(1@, 2); }", "test t { x = int(1@; }", "test t { x = int(int@); }", "test t { x = int(1@", "test t { x = float@; }", "test t { x = float(@); }", "test t { x = float(1@,); }", "test t { x = float @float(1); }", "test t { x = int(1) @int(1); }",
		"test t { x = f(@; }", "test t { x = f(@", "test t { x = f(@, 1); }", "test t { x = f(1@; }", "test t { x = f(1 @2); }", "test t { x = f(1,@); }", "test t { x = f(1,@, 2); }", "test t { x = f(1,@", "test t { x = f()@(); }", "test t { x = f() @f(); }", "test t { x = f(g()@; }", "test t { x = f(int@, 1); }", "test t { x = f(@skip); }", "test t { x = f(1@{ }", "test t { x = f(a @b int); }",
	} {
		marked(t, s, api.ErrParse)
	}
}

// Promise 11.1: the text's end is told as its length, whatever stands behind the last word.
func TestWrongEnd(t *testing.T) {
	for _, s := range []string{"test t {", "var g int = 1", "func f(", "test t { x = 1 +"} {
		for _, behind := range []string{"", " ", "\n\n", "// a note", " // a note\n\t "} {
			refuses(t, s+behind, len(s+behind), api.ErrParse)
		}
	}
}

// Promise 11.1: the text of all words, ended behind each of them.
func TestCutTexts(t *testing.T) {
	words, _, _ := lex.Tokens(everything)
	ends := 0
	for _, w := range words[1 : len(words)-1] {
		s := everything[:w.At]
		place, want := judged(s)
		if want == api.OK {
			ends++
			fine(t, s)
			continue
		}
		same(t, "where it ends", place, len(s))
		refuses(t, s, len(s), api.ErrParse)
	}
	same(t, "ends of declarations", ends, 5)
}

// otherWords is all words that are kept, all signs, and one of each other kind.
var otherWords = strings.Fields("func test var if else for return assert skip true false int float bool := <= >= == != && || ( ) { } , ; = + - * / % < > ! name 12 1.5")

// agrees holds what is answered of a text against what the grammar says of it.
func agrees(t *testing.T, s string) api.Errno {
	t.Helper()
	place, want := judged(s)
	if want == api.OK {
		fine(t, s)
	} else {
		refuses(t, s, place, want)
	}
	return want
}

// Promise 11.1: each word of a text that has all of the grammar left out, told twice, and each other word in its place and ahead of it.
func TestOneOtherWord(t *testing.T) {
	words, _, _ := lex.Tokens(everything)
	ends := map[api.Errno]int{agrees(t, everything): 1}
	for _, w := range words {
		ahead, behind := everything[:w.At], everything[w.At+len(w.S):]
		ends[agrees(t, ahead+" "+behind)]++
		for _, other := range append([]string{w.S + " " + w.S}, otherWords...) {
			ends[agrees(t, ahead+" "+other+" "+behind)]++
			ends[agrees(t, ahead+" "+other+" "+w.S+behind)]++
		}
	}
	if ends[api.OK] < 100 || ends[api.ErrParse] < 1000 || len(ends) != 2 {
		t.Errorf("%v", ends)
	}
}

// Promise 11.1: texts of any words by chance, and ones whose next word is mostly one that may stand there.
func TestAnyWords(t *testing.T) {
	rnd := rand.New(rand.NewSource(11))
	for range 3000 {
		var words []string
		for range rnd.Intn(12) {
			words = append(words, otherWords[rnd.Intn(len(otherWords))])
		}
		start := []string{"", "test t { ", "func f(", "var g ", "test t { x = ", "test t { if a { } "}[rnd.Intn(6)]
		agrees(t, start+strings.Join(words, " "))
	}
	longest := 0
	for range 25 {
		s := ""
		for range 500 {
			other := otherWords[rnd.Intn(len(otherWords))]
			if place, e := judged(s + other); e == api.OK || place == len(s+other) || rnd.Intn(3000) == 0 {
				s += other + " "
				agrees(t, s)
			}
		}
		longest = max(longest, len(s))
	}
	if longest < 40 {
		t.Errorf("the longest text has %d bytes alone", longest)
	}
}

// Promise 11.1: what is wrong further behind is not told, nor does it change what is told.
func TestFirstOfSeveral(t *testing.T) {
	marked(t, "test t { x = @; } test { } }", api.ErrParse)
	marked(t, "var @; func ( test", api.ErrParse)
	marked(t, "test t { x = (1 @} ) }", api.ErrParse)
	refuses(t, "test t { x = ; } ?", 17, api.ErrLex)
}
