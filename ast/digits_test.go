package ast

import (
	"math"
	"math/big"
	"math/rand"
	"regexp"
	"strconv"
	"strings"
	"testing"

	"cupel/api"
)

// Promise 10.1: types by their words; nothing for those that are none.
func TestTypeName(t *testing.T) {
	same(t, "1", TypeName(1), "int")
	same(t, "2", TypeName(2), "float")
	same(t, "3", TypeName(3), "bool")
	for _, kind := range []int{0, 4, -1, 20, 255, 257, math.MaxInt, math.MinInt} {
		same(t, "none", TypeName(kind), "")
	}
}

// Promise 10.1 and the chapter's words: noughts ahead, behind, on both sides, and nothing but noughts.
func TestDigits(t *testing.T) {
	cases := []struct{ s, want string }{
		{"007.500", "7.5"}, // the chapter's example
		{"7.5", "7.5"},
		{"0.0", "0.0"}, {"00.0", "0.0"}, {"0.00", "0.0"}, {"000.000", "0.0"},
		{"0.5", "0.5"}, {"00.5", "0.5"}, {"0.50", "0.5"}, {"000.500", "0.5"},
		{"5.0", "5.0"}, {"05.0", "5.0"}, {"5.000", "5.0"}, {"005.00", "5.0"},
		{"10.01", "10.01"}, {"010.010", "10.01"}, {"100.001", "100.001"}, {"00100.00100", "100.001"},
		{"0.007", "0.007"}, {"700.0", "700.0"}, {"007.007", "7.007"}, {"700.700", "700.7"},
		{"12345678901234.5", "12345678901234.5"}, {"1.23456789012345", "1.23456789012345"},
		{"9999999.99999999", "9999999.99999999"}, {"0.00000000000001", "0.00000000000001"},
	}
	for _, c := range cases {
		same(t, c.s, Digits(c.s), c.want)
	}
}

// Promise 10.1: a 0 stands where no digit is; other signs are none of the digits.
func TestDigitsOfOtherTexts(t *testing.T) {
	cases := []struct{ s, want string }{
		{"", "0.0"}, {".", "0.0"}, {".5", "0.5"}, {"5.", "5.0"}, {"5", "5.0"}, {"0", "0.0"}, {"00", "0.0"}, {"050", "50.0"},
		{"-1.5", "1.5"}, {"+01.50", "1.5"}, {" 1 . 5 ", "1.5"}, {"a", "0.0"}, {"1e5", "15.0"}, {"1.5.0", "1.5"}, {"1.5.5", "1.55"},
		{"\x00\xff\xfe1.\xc35\x80", "1.5"}, {"\u0661.\u0665", "0.0"}, {"\uff11", "0.0"}, {"/9.9:", "9.9"},
	}
	for _, c := range cases {
		same(t, strconv.Quote(c.s), Digits(c.s), c.want)
	}
}

// oneForm is the chapter's words as a pattern.
var oneForm = regexp.MustCompile(`^(0|[1-9][0-9]*)\.(0|[0-9]*[1-9])$`)

// chanceDigits is digits with a point, 15 at most, with many noughts among them.
func chanceDigits(rnd *rand.Rand) string {
	all := 2 + rnd.Intn(14)
	point := 1 + rnd.Intn(all-1)
	var b strings.Builder
	for i := range all {
		if i == point {
			b.WriteByte('.')
		}
		b.WriteByte("000123456789"[rnd.Intn(12)])
	}
	return b.String()
}

// Promise 10.1: digits are of the one form, and of the number that they were; and stay as they are then.
func TestDigitsAreTheSameNumber(t *testing.T) {
	rnd := rand.New(rand.NewSource(1))
	for range 20000 {
		s := chanceDigits(rnd)
		got := Digits(s)
		was, _ := new(big.Rat).SetString(s)
		is, ok := new(big.Rat).SetString(got)
		if !oneForm.MatchString(got) || !ok || was.Cmp(is) != 0 || Digits(got) != got {
			t.Fatalf("%s: %s", s, got)
		}
	}
}

// Promise 10.1: bits at the edges, each by its number.
func TestBits(t *testing.T) {
	cases := []struct {
		s    string
		want float64
	}{
		{"0.0", 0}, {"000.000", 0}, {"0.5", 0.5}, {"00.500", 0.5}, {"1.0", 1}, {"01.0", 1}, {"7.5", 7.5}, {"007.500", 7.5}, {"10.0", 10},
		{"0.1", 0.1}, {"0.2", 0.2}, {"0.3", 0.3}, {"1.1", 1.1}, {"2.675", 2.675}, {"1.005", 1.005},
		{"12345678901234.5", 12345678901234.5}, {"99999999999999.9", 99999999999999.9}, {"1.23456789012345", 1.23456789012345},
		{"9.99999999999999", 9.99999999999999}, {"0.99999999999999", 0.99999999999999}, {"0.00000000000001", 0.00000000000001}, {"99999999999999.0", 99999999999999},
	}
	for _, c := range cases {
		same(t, c.s, Bits(c.s), int64(math.Float64bits(c.want)))
	}
	same(t, "a half", Bits("0.5"), 0x3fe0000000000000)
	same(t, "one", Bits("1.0"), 0x3ff0000000000000)
	same(t, "nought", Bits("0.0"), 0)
}

// Promise 10.1: up to 15 digits the bits are those of the nearest number, as the library reads it.
func TestBitsAreTheNearest(t *testing.T) {
	rnd := rand.New(rand.NewSource(2))
	for range 50000 {
		s := chanceDigits(rnd)
		want, _ := strconv.ParseFloat(s, 64)
		if got := Bits(s); got != int64(math.Float64bits(want)) || Bits(Digits(s)) != got {
			t.Fatalf("%s: %x", s, got)
		}
	}
}

// The chapter's words: with more digits it is still the one 64-bit number divided by the other.
func TestBitsOfManyDigits(t *testing.T) {
	rnd := rand.New(rand.NewSource(3))
	for range 5000 {
		digits := "1"
		for range 16 + rnd.Intn(40) {
			digits += string("0123456789"[rnd.Intn(10)])
		}
		digits += "1"
		point := 1 + rnd.Intn(len(digits)-1)
		number, _ := new(big.Float).SetPrec(2000).SetString(digits)
		power, _ := new(big.Float).SetPrec(2000).SetString("1" + strings.Repeat("0", len(digits)-point))
		above, _ := number.Float64()
		below, _ := power.Float64()
		s := digits[:point] + "." + digits[point:]
		same(t, s, Bits(s), int64(math.Float64bits(above/below)))
	}
	same(t, "noughts do not count", Bits(strings.Repeat("0", 400)+"0.1"+strings.Repeat("0", 400)), int64(math.Float64bits(0.1)))
	same(t, "above all numbers", Bits(strings.Repeat("9", 400)+".0"), int64(math.Float64bits(math.Inf(1))))
	same(t, "near nought", Bits("0."+strings.Repeat("0", 400)+"1"), 0)
	same(t, "no number", Bits("1."+strings.Repeat("1", 400)), int64(math.Float64bits(math.NaN())))
}

// Rule R1: bits of texts that are no digits.
func TestBitsOfOtherTexts(t *testing.T) {
	for _, s := range []string{"", ".", "a", "..", "-", "\xff", "Inf", "NaN"} {
		same(t, s, Bits(s), 0)
	}
	same(t, "no point", Bits("5"), int64(math.Float64bits(5)))
	same(t, "nothing ahead", Bits(".5"), int64(math.Float64bits(0.5)))
	same(t, "nothing behind", Bits("5."), int64(math.Float64bits(5)))
	same(t, "a sign", Bits("-1.5"), int64(math.Float64bits(1.5)))
}

// Promise 10.1: the node of digits: in their one form, with their bits, and without a type.
func TestFloat(t *testing.T) {
	for _, s := range []string{"007.500", "7.5", "0.0", "00.00", "0.1", "12345678901234.5", "", "x"} {
		sameTree(t, s, Float(s), api.Node{Kind: 21, S: Digits(s), N: Bits(s)})
	}
	sameTree(t, "the example", Float("007.500"), api.Node{Kind: api.NodeFloat, S: "7.5", N: 0x401e000000000000})
}
