package mutate

import (
	"math/big"
	"slices"
	"strings"
	"testing"

	"cupel/api"
	"cupel/ast"
	"cupel/lex"
)

// The chapter's words put a second time, over texts: a mutant of a text in its one form is that text with other words. There are no trees, and no places.

// edit is other bytes in the place of some.
type edit struct {
	from, to int
	by       string
}

// edits is what is changed in the text of a function in its one form, by each of its mutants.
func edits(t *testing.T, s string) []edit {
	words, _, e := lex.Tokens(s)
	if e != api.OK {
		t.Fatalf("%s: no words", short(s))
	}
	var list []edit
	for i, w := range words {
		end := w.At + len(w.S)
		for _, by := range editsOfWord(s, w) {
			list = append(list, edit{w.At, end, by})
		}
		if i == 0 {
			continue
		}
		before := words[i-1]
		stop := strings.Index(s[w.At:], ";") + w.At + 1
		switch {
		case w.Kind == api.TokSign && w.S == "=": // an assignment begins at the name ahead of the sign
			list = append(list, edit{before.At, stop, "skip;"})
		case w.Kind == api.TokName && strings.Contains("{ } ;", before.S) && s[end] == '(': // a call where a statement begins
			list = append(list, edit{w.At, stop, "skip;"})
		}
	}
	return list
}

// editsOfWord is what may stand in the place of a word.
func editsOfWord(s string, w api.Token) []string {
	switch w.Kind {
	case api.TokInt:
		n, _ := new(big.Int).SetString(w.S, 10)
		list := []string{n.Add(n, big.NewInt(1)).String(), "0"}
		if w.S == "0" || w.S == "1" {
			return list[:1]
		}
		if w.S == "9223372036854775807" {
			list[0] = "9223372036854775806"
		}
		return list
	case api.TokFloat:
		if strings.Trim(w.S, "0.") == "" {
			return []string{"1.0"}
		}
		return []string{"0.0"}
	case api.TokWord:
		switch w.S {
		case "true":
			return []string{"false"}
		case "false":
			return []string{"true"}
		}
	case api.TokSign:
		return editsOfSign(s, w)
	}
	return nil
}

// editsOfSign is what may stand in the place of a sign: one between two has spaces around it, behind one ahead there is none.
func editsOfSign(s string, w api.Token) []string {
	if s[w.At+len(w.S)] != ' ' {
		if w.S == "-" || w.S == "!" {
			return []string{""}
		}
		return nil
	}
	pairs := "+- -+ */ /* %* <{ <] {< {> >] >{ ]> ]< =# #= &| |&" // of the signs with two bytes each a byte of its own
	names := strings.NewReplacer("<=", "{", ">=", "]", "==", "=", "!=", "#", "&&", "&", "||", "|")
	back := strings.NewReplacer("{", "<=", "]", ">=", "=", "==", "#", "!=", "&", "&&", "|", "||")
	name := names.Replace(w.S)
	if w.S == "=" || w.S == "{" {
		return nil
	}
	var list []string
	for _, pair := range strings.Fields(pairs) {
		if pair[:1] == name {
			list = append(list, back.Replace(pair[1:]))
		}
	}
	return list
}

// texts is those of all mutants of a program, sorted.
func texts(t *testing.T, p api.Node) []string {
	var list []string
	lines := strings.SplitAfter(ast.Print(p), "\n")
	for i, line := range lines {
		if !strings.HasPrefix(line, "func ") {
			continue
		}
		for _, e := range edits(t, line) {
			other := slices.Clone(lines)
			other[i] = line[:e.from] + e.by + line[e.to:]
			list = append(list, strings.Join(other, ""))
		}
	}
	slices.Sort(list)
	return list
}

// asTexts tells that a program has just the mutants that its text has: it is how many.
func asTexts(t *testing.T, p api.Node) int {
	t.Helper()
	var got []string
	for m := range All(p) {
		q, e := Apply(p, m)
		same(t, "the error", e, api.OK)
		got = append(got, ast.Print(q))
	}
	slices.Sort(got)
	want := texts(t, p)
	if !slices.Equal(got, want) {
		t.Errorf("%s: %d mutants, not the %d of its text", short(ast.Print(p)), len(got), len(want))
		for _, s := range got {
			if !slices.Contains(want, s) {
				t.Errorf("not of the text: %s", short(s))
			}
		}
		for _, s := range want {
			if !slices.Contains(got, s) {
				t.Errorf("of the text alone: %s", short(s))
			}
		}
	}
	return len(got)
}

// Promise 15.1: the mutants of some texts, by the model; and the model itself, by hand.
func TestMutantsOfTexts(t *testing.T) {
	p := treeOf(t, "func f(a int) bool { g(-a, 1); return !(a < 5); } func g(a int, b int) int { a = b % 2; return 0; }")
	was, f, g := ast.Print(p), "func f(a int) bool { g(-a, 1); return !(a < 5); }\n", "func g(a int, b int) int { a = (b % 2); return 0; }\n"
	same(t, "the text", was, f+g)
	var want []string
	for _, s := range []string{"skip; return !(a < 5)", "g(a, 1); return !(a < 5)", "g(-a, 2); return !(a < 5)", "g(-a, 1); return (a < 5)",
		"g(-a, 1); return !(a <= 5)", "g(-a, 1); return !(a >= 5)", "g(-a, 1); return !(a < 6)", "g(-a, 1); return !(a < 0)"} {
		want = append(want, "func f(a int) bool { "+s+"; }\n"+g)
	}
	for _, s := range []string{"skip; return 0", "a = (b * 2); return 0", "a = (b % 3); return 0", "a = (b % 0); return 0", "a = (b % 2); return 1"} {
		want = append(want, f+"func g(a int, b int) int { "+s+"; }\n")
	}
	slices.Sort(want)
	same(t, "the model", strings.Join(texts(t, p), ""), strings.Join(want, ""))
	same(t, "mutants", asTexts(t, p), 13)
	same(t, "mutants", asTexts(t, treeOf(t, someText)), 29)
}
