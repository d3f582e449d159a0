package lex

import (
	"math/rand"
	"regexp"
	"slices"
	"strings"
	"testing"

	"cupel/api"
)

// The chapter's own lists, a text each, so that none of them is the program's.
var (
	keptWords = strings.Fields("func test var if else for return assert skip true false int float bool")
	allSigns  = strings.Fields(":= <= >= == != && || ( ) { } , ; = + - * / % < > !")
)

const letters = "abcdefghijklmnopqrstuvwxyzABCDEFGHIJKLMNOPQRSTUVWXYZ_"

// expect holds the words of a text against what they must be; the end behind them is put by itself.
func expect(t *testing.T, s string, want ...api.Token) {
	t.Helper()
	want = append(want, api.Token{Kind: api.TokEnd, At: len(s)})
	got, at, e := Tokens(s)
	if e != api.OK || at != 0 || !slices.Equal(got, want) {
		t.Errorf("%q: %v, place %d, error %d, not %v", s, got, at, e, want)
	}
}

// refuse tells that a text's first word that may not be stands at a place.
func refuse(t *testing.T, s string, want int) {
	t.Helper()
	got, at, e := Tokens(s)
	if e != api.ErrLex || at != want || len(got) != 0 {
		t.Errorf("%q: %v, place %d, error %d, not place %d and ErrLex", s, got, at, e, want)
	}
}

// alone tells that a text is one word of a kind: by itself, and with spaces and signs beside it.
func alone(t *testing.T, kind int, s string) {
	t.Helper()
	expect(t, s, api.Token{Kind: kind, S: s})
	expect(t, " "+s+"\n", api.Token{Kind: kind, S: s, At: 1})
	expect(t, "("+s+")",
		api.Token{Kind: api.TokSign, S: "("},
		api.Token{Kind: kind, S: s, At: 1},
		api.Token{Kind: api.TokSign, S: ")", At: 1 + len(s)})
}

// wrong tells that a text is refused at its first byte, wherever it stands.
func wrong(t *testing.T, s string) {
	t.Helper()
	refuse(t, s, 0)
	refuse(t, "a "+s, 2)
	refuse(t, ";"+s+" b", 1)
	refuse(t, "// "+s+"\n\t"+s+"\n", 5+len(s))
}

// cut tells that a text's words, by what they are alone, are these, one right behind the other where the text has them so.
func cut(t *testing.T, s string, want ...string) {
	t.Helper()
	got, at, e := Tokens(s)
	if e != api.OK || at != 0 {
		t.Errorf("%q: place %d, error %d", s, at, e)
		return
	}
	var words []string
	for _, w := range got[:len(got)-1] {
		words = append(words, w.S)
		if s[w.At:w.At+len(w.S)] != w.S {
			t.Errorf("%q: %q is not at %d", s, w.S, w.At)
		}
	}
	if !slices.Equal(words, want) {
		t.Errorf("%q: %q, not %q", s, words, want)
	}
}

func TestNumbersOfKinds(t *testing.T) {
	got := []int{api.TokEnd, api.TokName, api.TokInt, api.TokFloat, api.TokWord, api.TokSign, int(api.ErrLex), int(api.ErrMany)}
	if want := []int{0, 1, 2, 3, 4, 5, 90, 3}; !slices.Equal(got, want) {
		t.Errorf("%v, not %v", got, want)
	}
}

func TestTextWithoutWords(t *testing.T) {
	for _, s := range []string{"", " ", "\t", "\n", " \t\n \t\n", "//", "//\n", "// x", "//\n//", " // x\n\t// y\n\n", "//\x00\r\x7f\x80\xff é"} {
		expect(t, s)
	}
}

func TestMaxSource(t *testing.T) {
	if api.MaxSource != 4096 {
		t.Fatalf("MaxSource is %d", api.MaxSource)
	}
	for _, fill := range []string{" ", ";", "\n"} {
		got, at, e := Tokens(strings.Repeat(fill, api.MaxSource))
		n := 1
		if fill == ";" {
			n += api.MaxSource
		}
		if e != api.OK || at != 0 || len(got) != n || got[n-1] != (api.Token{At: api.MaxSource}) {
			t.Errorf("MaxSource bytes %q: %d words, place %d, error %d", fill, len(got), at, e)
		}
	}
	expect(t, "//"+strings.Repeat("x", api.MaxSource-2))
	expect(t, strings.Repeat(" ", api.MaxSource-1)+"a", api.Token{Kind: api.TokName, S: "a", At: api.MaxSource - 1})
	refuse(t, strings.Repeat(" ", api.MaxSource-1)+"?", api.MaxSource-1)
	refuse(t, strings.Repeat("x", api.MaxSource), 0)
	refuse(t, strings.Repeat("1", api.MaxSource), 0)
}

func TestMoreThanMaxSource(t *testing.T) {
	for _, s := range []string{
		strings.Repeat(" ", api.MaxSource+1),
		strings.Repeat(";", api.MaxSource+1),
		strings.Repeat("a", api.MaxSource+1),
		strings.Repeat("?", api.MaxSource+1), // ErrMany goes ahead of ErrLex
		"007" + strings.Repeat(" ", 100000),
		"//" + strings.Repeat("x", api.MaxSource-1),
	} {
		got, at, e := Tokens(s)
		if e != api.ErrMany || at != api.MaxSource || len(got) != 0 {
			t.Errorf("%d bytes %.3q: %d words, place %d, error %d", len(s), s, len(got), at, e)
		}
	}
}

func TestEachKindWithItsPlace(t *testing.T) {
	expect(t, "a:=1.50 // x",
		api.Token{Kind: api.TokName, S: "a", At: 0},
		api.Token{Kind: api.TokSign, S: ":=", At: 1},
		api.Token{Kind: api.TokFloat, S: "1.50", At: 3})
	expect(t, "func f2(x int)\n\tfor x<=20{return 0.5;}// end",
		api.Token{Kind: api.TokWord, S: "func", At: 0},
		api.Token{Kind: api.TokName, S: "f2", At: 5},
		api.Token{Kind: api.TokSign, S: "(", At: 7},
		api.Token{Kind: api.TokName, S: "x", At: 8},
		api.Token{Kind: api.TokWord, S: "int", At: 10},
		api.Token{Kind: api.TokSign, S: ")", At: 13},
		api.Token{Kind: api.TokWord, S: "for", At: 16},
		api.Token{Kind: api.TokName, S: "x", At: 20},
		api.Token{Kind: api.TokSign, S: "<=", At: 21},
		api.Token{Kind: api.TokInt, S: "20", At: 23},
		api.Token{Kind: api.TokSign, S: "{", At: 25},
		api.Token{Kind: api.TokWord, S: "return", At: 26},
		api.Token{Kind: api.TokFloat, S: "0.5", At: 33},
		api.Token{Kind: api.TokSign, S: ";", At: 36},
		api.Token{Kind: api.TokSign, S: "}", At: 37})
}

func TestKeptWords(t *testing.T) {
	if len(keptWords) != 14 {
		t.Fatalf("%d words", len(keptWords))
	}
	for _, s := range keptWords {
		if !Word(s) || Name(s) {
			t.Errorf("%s: Word %v, Name %v", s, Word(s), Name(s))
		}
		alone(t, api.TokWord, s)
		cut(t, s+" "+s, s, s)
	}
}

func TestNamesThatBeginAsKeptWords(t *testing.T) {
	for _, s := range keptWords {
		like := []string{s + "x", s + "_", s + "1", s + s, "_" + s, "x" + s, s[:len(s)-1], s[1:], strings.ToUpper(s), strings.ToUpper(s[:1]) + s[1:]}
		for _, x := range like {
			if Word(x) || !Name(x) {
				t.Errorf("%s: Word %v, Name %v", x, Word(x), Name(x))
			}
			alone(t, api.TokName, x)
		}
	}
}

func TestNamesOfManyBytes(t *testing.T) {
	if api.MaxName != 16 {
		t.Fatalf("MaxName is %d", api.MaxName)
	}
	for n := 1; n <= api.MaxName+20; n++ {
		for _, s := range []string{strings.Repeat("x", n), "_" + strings.Repeat("7", n-1), "Z" + strings.Repeat("_", n-1)} {
			if Name(s) != (n <= api.MaxName) || Word(s) {
				t.Errorf("%s: Name %v, Word %v", s, Name(s), Word(s))
			}
			if n <= api.MaxName {
				alone(t, api.TokName, s)
			} else {
				wrong(t, s)
			}
		}
	}
	wrong(t, "return"+strings.Repeat("x", api.MaxName))
}

func TestEachByteAsName(t *testing.T) {
	for b := range 256 {
		s := string([]byte{byte(b)})
		letter := strings.Contains(letters, s)
		digit := strings.Contains("0123456789", s)
		if Name(s) != letter || Name("a"+s) != (letter || digit) || Name("a"+s+"a") != (letter || digit) || Name("aa"+s) != (letter || digit) || Name(s+"a") != letter {
			t.Errorf("byte %d: Name is not what it must be", b)
		}
		if Word(s) || Word("int"+s) || Word(s+"int") || Word("in"+s+"t") {
			t.Errorf("byte %d: Word", b)
		}
	}
}

func TestWordAndNameOfOtherTexts(t *testing.T) {
	for _, s := range []string{"", " ", "1", "1a", "07", " a", "a ", "a b", "a\n", "a.b", "a-b", ":=", "+", "//", "é", "aé", "a\x00", "\x00", "\xff", strings.Repeat("x", 17), strings.Repeat("x", 1<<16), " int", "int ", "int\n", "int float", "intfloat.", "//int", "1.5", "functestvarifelse"} {
		if Word(s) || Name(s) {
			t.Errorf("%.20q: Word %v, Name %v", s, Word(s), Name(s))
		}
	}
}

func TestWholeNumbers(t *testing.T) {
	for _, s := range []string{"0", "1", "9", "10", "100", "101", "1234567890", "999999999999999999", "1000000000000000000", "9223372036854775806", "9223372036854775807", "9199999999999999999", "1234567890123456"} {
		alone(t, api.TokInt, s)
	}
	for _, s := range []string{"00", "01", "007", "0000000000000000000000", "09223372036854775807", "9223372036854775808", "9223372036854775810", "9223372036854775900", "9300000000000000000", "9999999999999999999", "10000000000000000000", "18446744073709551616", "18446744073709551617", "92233720368547758070", "123456789012345678901234567890", strings.Repeat("1", 100)} {
		wrong(t, s)
	}
	cut(t, "0 0 1", "0", "0", "1")
	cut(t, "-9223372036854775807", "-", "9223372036854775807")
	refuse(t, "-9223372036854775808", 1)
}

func TestNumbersWithPoint(t *testing.T) {
	for _, s := range []string{"0.0", "1.5", "1.50", "007.500", "00.00", "10.01", "0.00000000000000", "00000000000000.0", "12345678901234.5", "1.23456789012345", "1.00000000000000", "1234567.89012345", "99999999999999.9"} {
		alone(t, api.TokFloat, s)
	}
	for digits := 2; digits <= 40; digits++ {
		for whole := 1; whole < digits; whole++ {
			s := strings.Repeat("1", whole) + "." + strings.Repeat("0", digits-whole)
			if digits <= 15 {
				alone(t, api.TokFloat, s)
			} else {
				wrong(t, s)
			}
		}
	}
}

func TestPointsWithoutDigits(t *testing.T) {
	for _, s := range []string{"1.", "0.", "007.", "1..", "1..5", "12. 5", "9223372036854775808.", "123456789012345.", "1.a", "1.//", "1.;", ".", ".5", "..", "...5", "1.\n5", "1.é"} {
		wrong(t, s)
	}
	refuse(t, "1 .5", 2)
	refuse(t, "a.5", 1)
	refuse(t, "a.b", 1)
	refuse(t, "1.5.", 3)
	refuse(t, "1.5.5", 3)
	refuse(t, "1.5 .", 4)
	refuse(t, ".1.", 0)
}

func TestNumbersRightAheadOfNames(t *testing.T) {
	expect(t, "12ab",
		api.Token{Kind: api.TokInt, S: "12", At: 0},
		api.Token{Kind: api.TokName, S: "ab", At: 2})
	expect(t, "1.5e10",
		api.Token{Kind: api.TokFloat, S: "1.5", At: 0},
		api.Token{Kind: api.TokName, S: "e10", At: 3})
	expect(t, "0for",
		api.Token{Kind: api.TokInt, S: "0", At: 0},
		api.Token{Kind: api.TokWord, S: "for", At: 1})
	cut(t, "0x1F", "0", "x1F")
	cut(t, "1_000", "1", "_000")
	refuse(t, "a1.5", 2)
	refuse(t, "007x", 0)
}

func TestEachSign(t *testing.T) {
	if len(allSigns) != 22 {
		t.Fatalf("%d signs", len(allSigns))
	}
	for _, s := range allSigns {
		alone(t, api.TokSign, s)
		cut(t, "a"+s+"b", "a", s, "b")
		cut(t, "1"+s+"2", "1", s, "2")
		if Word(s) || Name(s) {
			t.Errorf("%s: Word %v, Name %v", s, Word(s), Name(s))
		}
	}
}

func TestSignsBehindOneAnother(t *testing.T) {
	for s, want := range map[string]string{
		"===":    "== =",
		"====":   "== ==",
		"<==":    "<= =",
		"<<=":    "< <=",
		">>=":    "> >=",
		">==":    ">= =",
		"!==":    "!= =",
		"!!=":    "! !=",
		"=!":     "= !",
		"=!=":    "= !=",
		":==":    ":= =",
		":===":   ":= ==",
		"=:=":    "= :=",
		"=<":     "= <",
		"=>=":    "= >=",
		"&&&&":   "&& &&",
		"||||":   "|| ||",
		"<>":     "< >",
		"--":     "- -",
		"++=":    "+ + =",
		"/=":     "/ =",
		"*/":     "* /",
		"/*":     "/ *",
		"({})":   "( { } )",
		";;,":    "; ; ,",
		"!-!":    "! - !",
		"< =":    "< =",
		"= =":    "= =",
		"! =":    "! =",
		"a<=-b":  "a <= - b",
		"a&&!b":  "a && ! b",
		"a%-1.0": "a % - 1.0",
		"<\n=":   "< =",
	} {
		cut(t, s, strings.Fields(want)...)
	}
}

func TestBytesThatAreNoSign(t *testing.T) {
	for _, s := range []string{":", "&", "|", ": =", "& &", "| |", ":\n=", "::=", "&|", "|&", ":&&"} {
		wrong(t, s)
	}
	refuse(t, "&&&", 2)
	refuse(t, "|||", 2)
	refuse(t, "&&|", 2)
	refuse(t, ":=:", 2)
	refuse(t, "=:", 1)
	refuse(t, "a:b", 1)
	refuse(t, "a & b", 2)
	refuse(t, "a | b", 2)
}

func TestEachByte(t *testing.T) {
	const blanks = " \t\n"
	const digits = "0123456789"
	for b := range 256 {
		s := string([]byte{byte(b)})
		switch {
		case strings.Contains(blanks, s):
			expect(t, s)
			cut(t, "a"+s+"b", "a", "b")
		case strings.Contains(letters, s):
			alone(t, api.TokName, s)
		case strings.Contains(digits, s):
			alone(t, api.TokInt, s)
		case slices.Contains(allSigns, s):
			alone(t, api.TokSign, s)
		default:
			wrong(t, s)
			refuse(t, "a"+s, 1)
			if s != "." {
				refuse(t, "1"+s, 1)
			}
		}
		if s != "\n" { // a note has any byte up to the end of its line
			expect(t, "//"+s+"?\n")
			cut(t, "a//"+s+"?\nb", "a", "b")
		}
	}
}

func TestGaps(t *testing.T) {
	cut(t, "a b\tc\nd", "a", "b", "c", "d")
	cut(t, "  a \t\n\n b  ", "a", "b")
	cut(t, "a// b\nc", "a", "c")
	cut(t, "a // b // c\n// d\n\t//\ne", "a", "e")
	cut(t, "a//\nb", "a", "b")
	cut(t, "a // b", "a")
	cut(t, "a//", "a")
	cut(t, "1//.5\n2", "1", "2")
	cut(t, "//a\nb//c\nd", "b", "d")
	cut(t, "a///b\nc", "a", "c")
	cut(t, "<//\n=", "<", "=")
	expect(t, "//\na// ?\n b",
		api.Token{Kind: api.TokName, S: "a", At: 3},
		api.Token{Kind: api.TokName, S: "b", At: 10})
	refuse(t, "a // x\r\n\r\n", 8) // the byte 13 is in a note what any other one is, and behind it no gap
}

func TestSlashThatIsNoNote(t *testing.T) {
	cut(t, "/", "/")
	cut(t, "a/b", "a", "/", "b")
	cut(t, "a / b", "a", "/", "b")
	cut(t, "/ /", "/", "/")
	cut(t, "/\n/", "/", "/")
	cut(t, "/\t/ x", "/", "/", "x")
	cut(t, "a/ //b", "a", "/")
}

func TestFirstWordThatMayNotBe(t *testing.T) {
	faults := []string{"?", "007", "1.", ".5", "&", "|", ":", "9223372036854775808", "1234567890.123456", strings.Repeat("n", api.MaxName+1), "\x00", "\r", "\x7f", "\x80", "\xff", "é", "\"", "'", "[", "]", "#", "~"}
	right := "func f(x int) int { // ? 007\n\treturn x <= 1.50; }\n"
	for _, first := range faults {
		refuse(t, right+first, len(right))
		for _, second := range faults {
			refuse(t, right+first+" "+second, len(right))
			refuse(t, first+"\n"+right+second, 0)
		}
	}
}

func TestWordsAreTheCallersOwn(t *testing.T) {
	const s = "a := 1.50; // x"
	first, _, _ := Tokens(s)
	was := slices.Clone(first)
	second, _, _ := Tokens(s)
	for i := range second {
		second[i] = api.Token{Kind: 9, S: "?", At: -1}
	}
	_ = append(second, api.Token{Kind: 9})
	third, _, _ := Tokens(s)
	if !slices.Equal(first, was) || !slices.Equal(third, was) {
		t.Errorf("%v, %v, not %v", first, third, was)
	}
}

// The chapter again, by the library's patterns: what stands between words, and the runs of bytes that a word may be.
var (
	gapPattern   = regexp.MustCompile(`(?s)^(?:[ \t\n]|//[^\n]*)*`)
	namePattern  = regexp.MustCompile(`^[A-Za-z_][A-Za-z_0-9]*`)
	pointPattern = regexp.MustCompile(`^[0-9]+\.[0-9]*`)
	wholePattern = regexp.MustCompile(`^[0-9]+`)
	signPattern  = regexp.MustCompile(`^(?::=|<=|>=|==|!=|&&|\|\||[(){},;=+\-*/%<>!])`)

	rightWhole = regexp.MustCompile(`^(?:0|[1-9][0-9]*)$`)
	rightPoint = regexp.MustCompile(`^[0-9]+\.[0-9]+$`)
)

// notGreater compares two whole numbers without noughts ahead by their digits.
func notGreater(a, b string) bool {
	return strings.Repeat("0", max(0, len(b)-len(a)))+a <= strings.Repeat("0", max(0, len(a)-len(b)))+b
}

// wordByPatterns is the word that a text begins with, and whether it may be.
func wordByPatterns(s string) (kind int, word string, may bool) {
	if w := namePattern.FindString(s); w != "" {
		if slices.Contains(keptWords, w) {
			return api.TokWord, w, true
		}
		return api.TokName, w, len(w) <= 16
	}
	if w := pointPattern.FindString(s); w != "" {
		return api.TokFloat, w, rightPoint.MatchString(w) && len(w)-1 <= 15
	}
	if w := wholePattern.FindString(s); w != "" {
		return api.TokInt, w, rightWhole.MatchString(w) && notGreater(w, "9223372036854775807")
	}
	w := signPattern.FindString(s)
	return api.TokSign, w, w != ""
}

// byPatterns is what Tokens must answer.
func byPatterns(s string) ([]api.Token, int, api.Errno) {
	var list []api.Token
	for at := 0; ; {
		at += len(gapOf(s[at:]))
		if at == len(s) {
			return append(list, api.Token{At: at}), 0, api.OK
		}
		kind, word, may := wordByPatterns(s[at:])
		if !may {
			return nil, at, api.ErrLex
		}
		list = append(list, api.Token{Kind: kind, S: word, At: at})
		at += len(word)
	}
}

// gapOf is what stands between words at a text's beginning. Patterns go by runes: bytes that are none are asked as others, of which there are as many.
func gapOf(s string) string {
	b := []byte(s)
	for i, c := range b {
		if c >= 0x80 {
			b[i] = '?'
		}
	}
	return s[:len(gapPattern.Find(b))]
}

func agree(t *testing.T, s string) {
	t.Helper()
	got, at, e := Tokens(s)
	want, place, fault := byPatterns(s)
	if !slices.Equal(got, want) || at != place || e != fault {
		t.Fatalf("%q: %v, place %d, error %d, not %v, place %d, error %d", s, got, at, e, want, place, fault)
	}
}

func TestAllShortTexts(t *testing.T) {
	const bytes = "a_01.:=<!&|/ \n(?"
	var grow func(s string, left int)
	grow = func(s string, left int) {
		agree(t, s)
		if left == 0 {
			return
		}
		for i := range len(bytes) {
			grow(s+bytes[i:i+1], left-1)
		}
	}
	grow("", 4)
}

func TestChanceTexts(t *testing.T) {
	chance := rand.New(rand.NewSource(9))
	pieces := slices.Concat(keptWords, allSigns, strings.Fields("a xs _ f2 Zed 0 7 10 1.5 0.0 007.500 9223372036854775807 123456789012345 "+strings.Repeat("y", 16)), []string{" ", " ", " ", "\t", "\n", "\n", "// n\n", "//\n", " // \xff\r\n"})
	faults := []string{"007", "1.", ".", ":", "&", "|", "?", "\x00", "\r", "\x80", "9223372036854775808", strings.Repeat("y", 17), "1234567890123456.7"}
	for range 20000 {
		var b strings.Builder
		for range chance.Intn(30) {
			if chance.Intn(60) == 0 {
				b.WriteString(faults[chance.Intn(len(faults))])
				continue
			}
			b.WriteString(pieces[chance.Intn(len(pieces))])
			if chance.Intn(3) > 0 {
				b.WriteString(" ")
			}
		}
		agree(t, b.String())
	}
}

func TestChanceBytes(t *testing.T) {
	chance := rand.New(rand.NewSource(99))
	for range 20000 {
		b := make([]byte, chance.Intn(12))
		for i := range b {
			b[i] = byte(chance.Intn(256))
		}
		agree(t, string(b))
		if s := string(b); Word(s) != slices.Contains(keptWords, s) || Name(s) != (namePattern.FindString(s) == s && s != "" && len(s) <= 16 && !Word(s)) {
			t.Fatalf("%q: Word %v, Name %v", s, Word(s), Name(s))
		}
	}
}

// A text that is a name or a kept word is one word, and no other text is.
func TestWordAndNameAgreeWithTokens(t *testing.T) {
	texts := slices.Concat(keptWords, allSigns, []string{"", "a", "a1", "1a", "1", "1.5", "a b", " a", "a ", "_", "int1", "Int", strings.Repeat("z", 16), strings.Repeat("z", 17)})
	for _, s := range texts {
		got, _, e := Tokens(s)
		kind := api.TokEnd
		if e == api.OK && len(got) == 2 && got[0].S == s {
			kind = got[0].Kind
		}
		if Word(s) != (kind == api.TokWord) || Name(s) != (kind == api.TokName) {
			t.Errorf("%q: Word %v, Name %v, kind %d", s, Word(s), Name(s), kind)
		}
	}
}
