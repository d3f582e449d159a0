package parse

import (
	"strings"

	"cupel/api"
	"cupel/lex"
)

// The chapter's grammar as rules, to be gone by all at once (after Earley), so that nothing here is done as the program does it. NAME, INT, FLOAT and END are kinds of words. Ranks do not change which words may stand where.
const grammar = `
START = END | PROGRAM END
PROGRAM = DECLARATION | PROGRAM DECLARATION
DECLARATION = var NAME TYPE '=' CONSTANT ; | func NAME ( ) TYPE BLOCK | func NAME ( PARAMS ) TYPE BLOCK | test NAME BLOCK
TYPE = int | float | bool
CONSTANT = LITERAL | - NUMBER
NUMBER = INT | FLOAT
LITERAL = NUMBER | true | false
PARAMS = NAME TYPE | PARAMS , NAME TYPE
BLOCK = { } | { STATEMENTS }
STATEMENTS = STATEMENT | STATEMENTS STATEMENT
STATEMENT = NAME := E ; | NAME '=' E ; | IF | for E BLOCK | return E ; | assert E ; | skip ; | CALL ;
IF = if E BLOCK | if E BLOCK else BLOCK | if E BLOCK else IF
CALL = NAME ( ) | NAME ( ARGUMENTS )
ARGUMENTS = E | ARGUMENTS , E
E = SIGNED | E BETWEEN SIGNED
BETWEEN = '||' | && | < | <= | > | >= | == | != | + | - | * | / | %
SIGNED = - SIGNED | ! SIGNED | LITERAL | NAME | CALL | int ( E ) | float ( E ) | ( E )
`

// rules is the grammar, by what each one makes.
func rules() map[string][][]string {
	out := map[string][][]string{}
	for _, line := range strings.Split(strings.TrimSpace(grammar), "\n") {
		head, body, _ := strings.Cut(line, " = ")
		for _, way := range strings.Split(body, " | ") {
			var words []string
			for _, word := range strings.Fields(way) {
				words = append(words, strings.Trim(word, "'"))
			}
			out[head] = append(out[head], words)
		}
	}
	return out
}

var allRules = rules()

// item is a way of a rule that was begun at a word, with so many parts of it passed.
type item struct {
	head        string
	way, passed int
	begun       int
}

// terminal is what the grammar calls a word.
func terminal(w api.Token) string {
	switch w.Kind {
	case api.TokEnd:
		return "END"
	case api.TokName:
		return "NAME"
	case api.TokInt:
		return "INT"
	case api.TokFloat:
		return "FLOAT"
	}
	return w.S
}

// wrongWord is which word, counted from 0, is the first that may not stand where it stands; -1, if there is none.
func wrongWord(words []api.Token) int {
	set := []item{{head: "START"}, {head: "START", way: 1}}
	var sets [][]item
	for i, w := range words {
		set = closed(set, &sets)
		var next []item
		for _, x := range set {
			if parts := allRules[x.head][x.way]; x.passed < len(parts) && parts[x.passed] == terminal(w) {
				x.passed++
				next = append(next, x)
			}
		}
		if len(next) == 0 {
			return i
		}
		set = next
	}
	return -1
}

// closed is a set with all that may begin or has ended at its word; it is kept behind the earlier ones.
func closed(set []item, sets *[][]item) []item {
	at := len(*sets)
	*sets = append(*sets, nil)
	seen := map[item]bool{}
	var out []item
	add := func(x item) {
		if !seen[x] {
			seen[x] = true
			out = append(out, x)
		}
	}
	for _, x := range set {
		add(x)
	}
	for i := 0; i < len(out); i++ {
		x := out[i]
		parts := allRules[x.head][x.way]
		if x.passed < len(parts) {
			for way := range allRules[parts[x.passed]] {
				add(item{parts[x.passed], way, 0, at})
			}
			continue
		}
		for _, y := range (*sets)[x.begun] { // no rule makes nothing, so that this set is an earlier one, and whole
			if above := allRules[y.head][y.way]; y.passed < len(above) && above[y.passed] == x.head {
				y.passed++
				add(y)
			}
		}
	}
	(*sets)[at] = out
	return out
}

// judged is what the chapter says of a text with nothing in it that is too much: where the first wrong word is, and an error.
func judged(s string) (int, api.Errno) {
	words, at, e := lex.Tokens(s)
	if e != api.OK {
		return at, e
	}
	if i := wrongWord(words); i >= 0 {
		return words[i].At, api.ErrParse
	}
	return 0, api.OK
}

// everything has each kind of declarations, statements and expressions once at least.
const everything = `var g int = - 3; var h float = 0.5; var y bool = true;
func f ( a int , b float , c bool ) float {
	x := - a * ( 2 + 3 ) ; x = g % 7 ;
	if c && ! y || a <= 3 { skip ; } else if x == 1 { return b ; } else { f ( ) ; }
	for x < 10 { x = x + int ( b ) ; }
	return float ( x ) / h ;
}
func k ( ) bool { return false ; }
test t { assert f ( 1 , - 2.0 , k ( ) ) >= 1.5 ; f ( 1 , 2.0 , true ) ; if k ( ) { } }
`
