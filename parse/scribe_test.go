package parse

import (
	"math/rand"
	"strconv"
	"strings"

	"cupel/api"
	"cupel/ast"
)

// scribe makes a program by chance, and writes its words one by one; by the chapter's words it notes the first one with which something is too much. It knows what it writes ahead of writing it, so that nothing is done here as the program does it.
type scribe struct {
	rnd    *rand.Rand
	words  []string
	nodes  int
	depth  int
	many   int // which word, counted from 0; -1, if there is none
	left   int // how many words may still be written, roughly
	long   int // how long lists of statements and declarations get
	wide   int // how many parameters and arguments there are at most
	nested int // of 100 expressions and statements so many have others within them
}

func (s *scribe) write(words ...string) {
	s.words = append(s.words, words...)
	s.left -= len(words)
}

// limit notes that the next word is the first of one more than there may be.
func (s *scribe) limit(too bool) {
	if too && s.many < 0 {
		s.many = len(s.words)
	}
}

// deeper writes a word that goes deeper.
func (s *scribe) deeper(word string) {
	s.depth++
	s.limit(s.depth > 40)
	s.write(word)
}

// done is a node whose words are all written.
func (s *scribe) done(n api.Node) api.Node {
	s.nodes++
	s.limit(s.nodes > 2000)
	return n
}

func (s *scribe) chance(percent int) bool { return s.rnd.Intn(100) < percent && s.left > 0 }

func (s *scribe) some(list ...string) string { return list[s.rnd.Intn(len(list))] }

func (s *scribe) name() string { return s.some("a", "b", "c", "x", "y", "f", "g") }

func (s *scribe) typed() int {
	t := 1 + s.rnd.Intn(3)
	s.write([]string{"", "int", "float", "bool"}[t])
	return t
}

func (s *scribe) program() api.Node {
	n := api.Node{Kind: api.NodeProgram}
	globals, others := 0, 0
	for range s.rnd.Intn(s.long + 1) {
		if s.left < 0 {
			break
		}
		if s.chance(30) {
			globals++
			s.limit(globals > 16)
			n.Kids = append(n.Kids, s.global())
		} else {
			others++
			s.limit(others > 32)
			n.Kids = append(n.Kids, s.function())
		}
	}
	return s.done(n)
}

func (s *scribe) global() api.Node {
	n := api.Node{Kind: api.NodeGlobal, S: s.name()}
	s.write("var", n.S)
	n.T = s.typed()
	s.write("=")
	low := s.chance(30)
	if low {
		s.write("-")
	}
	x := s.literal(low)
	if low && x.Kind == api.NodeInt {
		x.N = -x.N
	} else if low {
		x.N = int64(uint64(x.N) | 1<<63)
	}
	n.Kids = append(n.Kids, x)
	s.write(";")
	return s.done(n)
}

func (s *scribe) function() api.Node {
	n := api.Node{Kind: api.NodeTest, S: s.name()}
	if s.chance(50) {
		s.write("test", n.S)
		n.Kids = append(n.Kids, s.block())
		return s.done(n)
	}
	n.Kind = api.NodeFunc
	s.write("func", n.S, "(")
	for i := range s.rnd.Intn(s.wide + 1) {
		if i > 0 {
			s.write(",")
		}
		s.limit(i >= 6)
		p := api.Node{Kind: api.NodeParam, S: s.name()}
		s.write(p.S)
		p.T = s.typed()
		n.Kids = append(n.Kids, s.done(p))
	}
	s.write(")")
	n.T = s.typed()
	n.Kids = append(n.Kids, s.block())
	return s.done(n)
}

func (s *scribe) block() api.Node {
	n := api.Node{Kind: api.NodeBlock}
	s.deeper("{")
	for i := range s.rnd.Intn(s.long + 1) {
		if s.left < 0 {
			break
		}
		s.limit(i >= 32)
		n.Kids = append(n.Kids, s.statement())
	}
	s.write("}")
	s.depth--
	return s.done(n)
}

func (s *scribe) statement() api.Node {
	if s.chance(s.nested) {
		if s.chance(50) {
			return s.branches()
		}
		s.write("for")
		n := api.Node{Kind: api.NodeFor, Kids: []api.Node{s.expression(0)}}
		n.Kids = append(n.Kids, s.block())
		return s.done(n)
	}
	n := api.Node{Kind: 7 + s.rnd.Intn(8), S: s.name()}
	switch n.Kind {
	case api.NodeDefine:
		s.write(n.S, ":=")
	case api.NodeAssign:
		s.write(n.S, "=")
	case api.NodeDo:
		n = api.Node{Kind: api.NodeDo, Kids: []api.Node{s.call()}}
		s.write(";")
		return s.done(n)
	case api.NodeAssert:
		n.S = ""
		s.write("assert")
	case api.NodeReturn:
		n.S = ""
		s.write("return")
	default:
		s.write("skip", ";")
		return s.done(api.Node{Kind: api.NodeSkip})
	}
	n.Kids = append(n.Kids, s.expression(0))
	s.write(";")
	return s.done(n)
}

func (s *scribe) branches() api.Node {
	n := api.Node{Kind: api.NodeIf}
	s.deeper("if")
	n.Kids = append(n.Kids, s.expression(0))
	n.Kids = append(n.Kids, s.block())
	if s.chance(60) {
		s.write("else")
		if s.chance(60) {
			inner := s.branches()
			n.Kids = append(n.Kids, s.done(api.Node{Kind: api.NodeBlock, Kids: []api.Node{inner}}))
		} else {
			n.Kids = append(n.Kids, s.block())
		}
	}
	s.depth--
	return s.done(n)
}

// expression is one that may stand beside a sign of a rank; else it gets brackets, and some get them that need none.
func (s *scribe) expression(rank int) api.Node {
	if !s.chance(s.nested) {
		return s.operand()
	}
	sign := allSigns()[s.rnd.Intn(13)]
	own := rankOf(sign)
	brackets := own < rank || s.chance(10)
	if brackets {
		s.deeper("(")
	}
	n := api.Node{Kind: api.NodeBin, S: sign, Kids: []api.Node{s.expression(own)}}
	s.write(sign)
	n.Kids = append(n.Kids, s.expression(own+1))
	n = s.done(n)
	if brackets {
		s.write(")")
		s.depth--
	}
	return n
}

func (s *scribe) operand() api.Node {
	if !s.chance(s.nested) {
		if s.chance(50) {
			return s.literal(false)
		}
		n := api.Node{Kind: api.NodeVar, S: s.name()}
		s.write(n.S)
		return s.done(n)
	}
	switch s.rnd.Intn(4) {
	case 0:
		return s.call()
	case 1:
		n := api.Node{Kind: api.NodeUnary, S: s.some("-", "!")}
		s.deeper(n.S)
		n.Kids = append(n.Kids, s.operand())
		s.depth--
		return s.done(n)
	case 2:
		n := api.Node{Kind: api.NodeConv, T: 1 + s.rnd.Intn(2)}
		s.write([]string{"", "int", "float"}[n.T])
		n.Kids = append(n.Kids, s.bracketed())
		return s.done(n)
	}
	return s.bracketed()
}

func (s *scribe) bracketed() api.Node {
	s.deeper("(")
	n := s.expression(0)
	s.write(")")
	s.depth--
	return n
}

func (s *scribe) call() api.Node {
	n := api.Node{Kind: api.NodeCall, S: s.name()}
	s.write(n.S)
	s.deeper("(")
	for i := range s.rnd.Intn(s.wide + 1) {
		if i > 0 {
			s.write(",")
		}
		s.limit(i >= 6)
		n.Kids = append(n.Kids, s.expression(0))
	}
	s.write(")")
	s.depth--
	return s.done(n)
}

func (s *scribe) literal(number bool) api.Node {
	which := s.rnd.Intn(4)
	if number {
		which = s.rnd.Intn(2)
	}
	switch which {
	case 0:
		n := api.Node{Kind: api.NodeInt, N: s.rnd.Int63() >> s.rnd.Intn(64)}
		if s.chance(80) {
			n.N = int64(s.rnd.Intn(10))
		}
		s.write(strconv.FormatInt(n.N, 10))
		return s.done(n)
	case 1:
		digits := s.some("0.0", "0.5", "01.50", "7.25", "123.0")
		s.write(digits)
		return s.done(ast.Float(digits))
	}
	value := s.rnd.Intn(2)
	s.write([]string{"false", "true"}[value])
	return s.done(api.Node{Kind: api.NodeBool, N: int64(value)})
}

// apart tells whether two words must have something between them.
func apart(a, b string) bool {
	if a == "" || b == "" {
		return false
	}
	const letters = "abcdefghijklmnopqrstuvwxyzABCDEFGHIJKLMNOPQRSTUVWXYZ_0123456789."
	x, y := a[len(a)-1:], b[:1]
	return strings.Contains(letters, x) && strings.Contains(letters, y) || strings.Contains(" <= >= == != && || // := ", " "+x+y+" ")
}

// joined is words as a text with as little between them as may be, or now and then more; and the place of each of them, and of the text's end.
func joined(rnd *rand.Rand, words []string, roomy bool) (string, []int) {
	var text strings.Builder
	var places []int
	last := ""
	for _, w := range words {
		if apart(last, w) {
			text.WriteString(" ")
		}
		if roomy && rnd.Intn(4) == 0 {
			text.WriteString([]string{" ", "\n", "\t", " \n ", " // x\n", " //\n\n"}[rnd.Intn(6)])
		}
		places = append(places, text.Len())
		text.WriteString(w)
		last = w
	}
	if roomy && rnd.Intn(2) == 0 {
		text.WriteString(" // the end")
	}
	return text.String(), append(places, text.Len())
}
