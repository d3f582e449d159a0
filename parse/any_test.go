package parse

import (
	"math/rand"
	"strings"
	"testing"

	"cupel/api"
	"cupel/ast"
	"cupel/lex"
)

// scribes is makers of programs of all sorts: small ones, ones of many nodes, deep ones, ones with long lists.
func scribes(rnd *rand.Rand) *scribe {
	s := &scribe{rnd: rnd, many: -1, left: 60, long: 4, wide: 3, nested: 35}
	switch rnd.Intn(5) {
	case 0:
		s.left, s.long, s.wide = 3000, 20, 6
	case 1:
		s.left, s.long, s.wide, s.nested = 600, 3, 2, 85
	case 2:
		s.left, s.long, s.wide, s.nested = 1500, 50, 8, 10
	case 3:
		s.left, s.long, s.wide, s.nested = 2600, 34, 6, 45
	}
	return s
}

// Promise 11.1: programs by chance have the tree that they were made of, or are refused at the first word with which something is too much.
func TestProgramsByChance(t *testing.T) {
	rnd := rand.New(rand.NewSource(1))
	ends := map[string]int{}
	for range 3000 {
		s := scribes(rnd)
		want := s.program()
		text, places := joined(rnd, s.words, len(s.words) < 300)
		switch {
		case len(text) > api.MaxSource:
			refuses(t, text, api.MaxSource, api.ErrMany)
			ends["long"]++
		case s.many >= 0:
			refuses(t, text, places[s.many], api.ErrMany)
			ends["many"]++
		default:
			got := fine(t, text)
			if !ast.Same(got, want) {
				t.Errorf("%s: %s, not %s", short(text), short(ast.Print(got)), short(ast.Print(want)))
			}
			ends["fine"]++
		}
	}
	if ends["many"] < 300 || ends["fine"] < 800 {
		t.Errorf("%v", ends)
	}
}

// Promise 11.1: programs by chance of about MaxNodes nodes, in texts that are short enough: the node that is too many is told behind its own words.
func TestManyNodesByChance(t *testing.T) {
	rnd := rand.New(rand.NewSource(2))
	ends := map[bool]int{}
	for range 600 {
		ahead := 1995 - rnd.Intn(60)
		s := &scribe{rnd: rnd, words: wordsOf(fill(ahead)), nodes: ahead, many: -1, left: 20 + rnd.Intn(80), long: 5, wide: 3, nested: 30}
		tree := s.program()
		text, places := joined(rnd, s.words, false)
		same(t, "nodes", s.nodes, ahead+ast.Count(tree))
		ends[s.many >= 0]++
		if s.many >= 0 {
			refuses(t, text, places[s.many], api.ErrMany)
			continue
		}
		n := fine(t, text)
		same(t, "nodes", ast.Count(n), s.nodes)
		n.Kids = n.Kids[1:]
		same(t, "the tree", ast.Same(n, tree), true)
	}
	if ends[true] < 100 || ends[false] < 100 {
		t.Errorf("%v", ends)
	}
}

// wordsOf is a text's words.
func wordsOf(s string) []string {
	list, _, _ := lex.Tokens(s)
	var words []string
	for _, w := range list[:len(list)-1] {
		words = append(words, w.S)
	}
	return words
}

// Promise 11.1: of a word that may not stand where it stands, and one with which something is too much, the first one is told; of both at one word, ErrParse, which is named first.
func TestWrongWordsByChance(t *testing.T) {
	rnd := rand.New(rand.NewSource(3))
	ends := map[string]int{}
	for range 1500 {
		s := scribes(rnd)
		s.left = min(s.left, 700)
		s.program()
		at := rnd.Intn(len(s.words) + 1)
		if s.many >= 0 && rnd.Intn(2) == 0 {
			at = max(min(s.many+rnd.Intn(5)-2, len(s.words)), 0)
		}
		words := append([]string{}, s.words[:at]...)
		if rnd.Intn(3) > 0 { // else the text ends here
			words = append(append(words, otherWords[rnd.Intn(len(otherWords))]), s.words[at:]...)
		}
		text, places := joined(rnd, words, false)
		tokens, _, e := lex.Tokens(text)
		if e != api.OK || wrongWord(tokens[:min(at+1, len(tokens))]) != at {
			continue
		}
		switch {
		case s.many >= 0 && s.many < at:
			refuses(t, text, places[s.many], api.ErrMany)
			ends["many"]++
		case s.many == at:
			refuses(t, text, places[at], api.ErrParse)
			ends["both"]++
		default:
			refuses(t, text, places[at], api.ErrParse)
			ends["wrong"]++
		}
	}
	if ends["many"] < 30 || ends["both"] < 5 || ends["wrong"] < 300 {
		t.Errorf("%v", ends)
	}
}

// levels is how deep the text of a tree in its one form is: all that has brackets or signs ahead, blocks and ifs.
func levels(n api.Node) int {
	deepest := 0
	for _, kid := range n.Kids {
		deepest = max(deepest, levels(kid))
	}
	switch n.Kind {
	case api.NodeBlock, api.NodeIf, api.NodeCall, api.NodeUnary, api.NodeBin, api.NodeConv:
		deepest++
	}
	return deepest
}

// Promise 11.2: what is printed is parsed to the same tree, and printed the same, unless its text is longer than a text may be, or has more brackets within one another.
func TestPrintedAndParsed(t *testing.T) {
	rnd := rand.New(rand.NewSource(4))
	ends := map[api.Errno]int{}
	longest := 0
	for range 2500 {
		s := scribes(rnd)
		s.left = min(s.left, 500)
		tree := s.program()
		if s.many >= 0 {
			continue
		}
		text := ast.Print(tree)
		got, at, e := Program(text)
		ends[e]++
		if len(text) > api.MaxSource || levels(tree) > api.MaxDepth {
			same(t, short(text), e, api.ErrMany)
			continue
		}
		if at != 0 || e != api.OK || !ast.Same(got, tree) {
			t.Errorf("%s: %d, %d, %s", short(text), at, e, short(ast.Print(got)))
		}
		same(t, "printed again", ast.Print(got), text)
		longest = max(longest, len(text))
	}
	if longest < 1000 || ends[api.OK] < 1000 || len(ends) != 2 {
		t.Errorf("%v, the longest text has %d bytes", ends, longest)
	}
}

// Promise 11.2: what is printed of a text's tree is parsed to the same tree, however the text was written.
func TestParsedAndPrinted(t *testing.T) {
	n := fine(t, everything)
	m := fine(t, ast.Print(n))
	same(t, "the tree of what is printed", ast.Same(n, m), true)
	same(t, "printed twice", ast.Print(m), ast.Print(n))
	same(t, "their digests", ast.Hash(m), ast.Hash(n))
	n = fine(t, "test t { x = 1; }")
	low := ast.Replace(n, 4, whole(-1)) // a tree that no text has
	same(t, "a number below nought is a sign and a number", ast.Same(fine(t, ast.Print(low)), fine(t, "test t { x = -1; }")), true)
}

// Rule R1: any bytes, any words and pieces of programs: a call ends, with a tree or with an error and a place within the text; and twice the same.
func TestAnyText(t *testing.T) {
	rnd := rand.New(rand.NewSource(5))
	pieces := append(append([]string{}, otherWords...), " ", "\n", "//", "\x00", "\xff", "?", "é", "0", "007", ".", "1.", "_", "abcdefghijklmnopqrst", "test t {", "if a {", "} else", "((((((((((", "----------", "f(f(f(f(", everything)
	for i := range 20000 {
		text := ""
		if i%2 == 0 {
			b := make([]byte, rnd.Intn(40))
			rnd.Read(b)
			text = string(b)
		} else {
			for range rnd.Intn(20) {
				text += pieces[rnd.Intn(len(pieces))]
			}
		}
		whatever(t, text)
	}
	for b := range 256 {
		for _, around := range []string{"", "test t { x = ", "var g int = ", "test t { "} {
			whatever(t, around+string([]byte{byte(b)}))
			whatever(t, around+strings.Repeat(string([]byte{byte(b)}), 5000))
			whatever(t, around+strings.Repeat(string([]byte{byte(b)}), 3000))
		}
	}
}

// Rule R1: a text with any one byte changed.
func TestOneOtherByte(t *testing.T) {
	rnd := rand.New(rand.NewSource(6))
	for i := range len(everything) {
		for range 8 {
			b := []byte(everything)
			b[i] = byte(rnd.Intn(256))
			whatever(t, string(b))
			agrees(t, string(b))
		}
	}
}

// whatever tells what holds for any text.
func whatever(t *testing.T, s string) {
	t.Helper()
	n, at, e := Program(s)
	m, again, f := Program(s)
	if !ast.Same(n, m) || at != again || e != f {
		t.Errorf("%s: told otherwise when asked twice", short(s))
	}
	_, place, lexed := lex.Tokens(s)
	switch {
	case lexed != api.OK:
		refuses(t, s, place, lexed)
	case e == api.OK:
		fine(t, s)
		if ast.Count(n) > api.MaxNodes {
			t.Errorf("%s: %d nodes", short(s), ast.Count(n))
		}
	case e == api.ErrParse || e == api.ErrMany:
		if at < 0 || at > len(s) || !ast.Same(n, api.Node{}) {
			t.Errorf("%s: place %d", short(s), at)
		}
	default:
		t.Errorf("%s: error %d", short(s), e)
	}
}

// Rule R1: texts that are as deep as their bytes let them be.
func TestDeepestTexts(t *testing.T) {
	for _, head := range []string{"test t { x = ", "test t { ", "func f() int { return "} {
		for _, open := range []string{"(", "-", "!", "f(", "int(", "{", "if a {", "for a {", "if a { } else ", "1+", "1||1&&1<1+1*", "-(", "f(1,"} {
			whatever(t, head+strings.Repeat(open, (api.MaxSource-len(head))/len(open)))
			whatever(t, strings.Repeat(open, 100000))
		}
	}
}
