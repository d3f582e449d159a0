package val

import (
	"math"
	"math/rand"
	"strings"
	"testing"

	"cupel/api"
)

// Example 1: 0.0 / 0.0 is no number; it is not equal to itself. 1.0 / -0.0 is below all numbers.
func TestExample(t *testing.T) {
	none, trap := Binary("/", Float(0), Float(0))
	same(t, "0.0 / 0.0", none, api.Value{T: 2, N: 0x7ff8000000000001})
	same(t, "what goes wrong", trap, api.TrapNone)
	equal, trap := Binary("==", none, none)
	same(t, "whether it is equal to itself", equal, api.Value{T: 3, N: 0})
	same(t, "what goes wrong", trap, api.TrapNone)
	below, trap := Binary("/", Float(1), Unary("-", Float(0)))
	same(t, "1.0 / -0.0", below, api.Value{T: 2, N: -0x10000000000000})
	same(t, "what goes wrong", trap, api.TrapNone)
	same(t, "that of -Inf", below, Float(math.Inf(-1)))
	for _, n := range edgeBits() {
		if d := decode(n); !d.none && n != belowAll {
			makes(t, "<", below, number(n), yes(), 0)
		}
	}
}

// Promise 13.2: numbers, one by one, by their bits: whole results, those that are rounded, noughts, those above and below all.
func TestNumbers(t *testing.T) {
	tenth, fifth := math.Float64bits(0.1), math.Float64bits(0.2)
	ulp := math.Float64bits(0x1p-53)
	for _, c := range []struct {
		s          string
		a, b, want uint64
	}{
		{"+", one, half, 0x3ff8000000000000}, {"+", one, minusOne, plusNought}, {"+", tenth, fifth, 0x3fd3333333333334},
		{"-", one, half, half}, {"-", one, one, plusNought}, {"-", minusOne, minusOne, plusNought}, {"-", half, one, half | 1<<63},
		{"*", half, half, 0x3fd0000000000000}, {"*", half, minusOne, half | 1<<63}, {"*", tenth, tenth, 0x3f847ae147ae147c},
		{"/", one, half, 0x4000000000000000}, {"/", one, math.Float64bits(3), 0x3fd5555555555555}, {"/", one, math.Float64bits(10), tenth},
		// rounded to that whose last bit is 0, where two are as near
		{"+", one, ulp, one}, {"+", one + 1, ulp, one + 2}, {"+", one, ulp + 1, one + 1}, {"-", one, ulp, one - 1},
		{"*", leastAbove, half, plusNought}, {"*", 3, half, 2}, {"*", 5, half, 2}, {"*", 7, half, 4}, {"*", leastAbove, half + 1, leastAbove}, {"*", leastBelow, half, minusNought},
		// nought's signs
		{"+", plusNought, plusNought, plusNought}, {"+", plusNought, minusNought, plusNought}, {"+", minusNought, plusNought, plusNought}, {"+", minusNought, minusNought, minusNought},
		{"-", plusNought, plusNought, plusNought}, {"-", plusNought, minusNought, plusNought}, {"-", minusNought, plusNought, minusNought}, {"-", minusNought, minusNought, plusNought},
		{"*", plusNought, plusNought, plusNought}, {"*", plusNought, minusNought, minusNought}, {"*", minusNought, plusNought, minusNought}, {"*", minusNought, minusNought, plusNought},
		{"*", one, minusNought, minusNought}, {"*", minusOne, plusNought, minusNought}, {"*", minusOne, minusNought, plusNought}, {"+", one, minusNought, one}, {"-", minusNought, one, minusOne},
		{"/", plusNought, plusNought, noNumber}, {"/", plusNought, minusNought, noNumber}, {"/", minusNought, plusNought, noNumber}, {"/", minusNought, minusNought, noNumber},
		{"/", one, plusNought, aboveAll}, {"/", one, minusNought, belowAll}, {"/", minusOne, plusNought, belowAll}, {"/", minusOne, minusNought, aboveAll},
		{"/", plusNought, one, plusNought}, {"/", minusNought, one, minusNought}, {"/", plusNought, minusOne, minusNought}, {"/", minusNought, minusOne, plusNought},
		{"/", leastAbove, plusNought, aboveAll}, {"/", aboveAll, plusNought, aboveAll}, {"/", aboveAll, minusNought, belowAll}, {"/", plusNought, aboveAll, plusNought}, {"/", plusNought, belowAll, minusNought},
		// the greatest and the least ones
		{"+", greatest, greatest, aboveAll}, {"+", lowest, lowest, belowAll}, {"-", greatest, lowest, aboveAll}, {"+", greatest, one, greatest}, {"+", greatest, lowest, plusNought},
		{"+", greatest, math.Float64bits(0x1p970), aboveAll}, {"+", greatest, math.Float64bits(0x1p970) - 1, greatest},
		{"*", greatest, greatest, aboveAll}, {"*", greatest, lowest, belowAll}, {"*", lowest, lowest, aboveAll}, {"*", greatest, one + 1, aboveAll}, {"*", greatest, one, greatest},
		{"*", leastAbove, leastAbove, plusNought}, {"*", leastAbove, leastBelow, minusNought}, {"/", leastAbove, greatest, plusNought}, {"/", leastBelow, greatest, minusNought}, {"/", greatest, leastAbove, aboveAll}, {"/", lowest, leastAbove, belowAll},
		{"+", leastAbove, leastAbove, 2}, {"-", firstNormal, leastAbove, lastSmall}, {"+", lastSmall, leastAbove, firstNormal}, {"-", leastAbove, 2, leastBelow}, {"/", firstNormal, math.Float64bits(2), 1 << 51}, {"/", 3, 2, 0x3ff8000000000000},
		// those above all and below all
		{"+", aboveAll, aboveAll, aboveAll}, {"+", belowAll, belowAll, belowAll}, {"+", aboveAll, belowAll, noNumber}, {"+", belowAll, aboveAll, noNumber}, {"+", aboveAll, lowest, aboveAll}, {"+", one, belowAll, belowAll},
		{"-", aboveAll, aboveAll, noNumber}, {"-", belowAll, belowAll, noNumber}, {"-", aboveAll, belowAll, aboveAll}, {"-", belowAll, aboveAll, belowAll}, {"-", one, aboveAll, belowAll},
		{"*", aboveAll, aboveAll, aboveAll}, {"*", aboveAll, belowAll, belowAll}, {"*", aboveAll, plusNought, noNumber}, {"*", minusNought, belowAll, noNumber}, {"*", aboveAll, leastBelow, belowAll},
		{"/", aboveAll, aboveAll, noNumber}, {"/", belowAll, aboveAll, noNumber}, {"/", one, aboveAll, plusNought}, {"/", one, belowAll, minusNought}, {"/", greatest, aboveAll, plusNought}, {"/", aboveAll, greatest, aboveAll}, {"/", belowAll, leastBelow, aboveAll},
	} {
		makes(t, c.s, number(c.a), number(c.b), number(c.want), api.TrapNone)
	}
}

// Promise 13.2: what is no number, with bits of any kind, makes the one value, and is unlike all, itself too.
func TestNoNumber(t *testing.T) {
	for _, none := range append([]uint64{noNumber}, otherNoNumbers...) {
		for _, other := range edgeBits() {
			for _, s := range []string{"+", "-", "*", "/"} {
				makes(t, s, number(none), number(other), number(noNumber), 0)
				makes(t, s, number(other), number(none), number(noNumber), 0)
			}
			for _, s := range []string{"<", "<=", ">", ">=", "==", "!="} {
				makes(t, s, number(none), number(other), answer(s == "!="), 0)
				makes(t, s, number(other), number(none), answer(s == "!="), 0)
			}
		}
	}
}

// Promise 13.2: comparisons of numbers; both noughts are equal.
func TestNumbersCompared(t *testing.T) {
	rising := []uint64{belowAll, lowest, minusPower63, minusOne + 1, minusOne, half | 1<<63, firstNormal | 1<<63, leastBelow, minusNought, plusNought, leastAbove, lastSmall, firstNormal, half, one - 1, one, one + 1, power63, greatest, aboveAll}
	place := func(i int) int {
		if rising[i] == minusNought {
			return i + 1
		}
		return i
	}
	for i, a := range rising {
		for j, b := range rising {
			x, y := place(i), place(j)
			makes(t, "<", number(a), number(b), answer(x < y), 0)
			makes(t, "<=", number(a), number(b), answer(x <= y), 0)
			makes(t, ">", number(a), number(b), answer(x > y), 0)
			makes(t, ">=", number(a), number(b), answer(x >= y), 0)
			makes(t, "==", number(a), number(b), answer(x == y), 0)
			makes(t, "!=", number(a), number(b), answer(x != y), 0)
		}
	}
}

// Promise 13.2: each sign of numbers at all edges.
func TestNumbersByWords(t *testing.T) {
	for _, s := range strings.Fields(signsOf[api.TypeFloat]) {
		for _, a := range edgeBits() {
			for _, b := range edgeBits() {
				agree(t, s, number(a), number(b))
			}
		}
	}
}

// near is a number by chance whose power of two is about one that is wanted.
func near(rnd *rand.Rand, power int) uint64 {
	power = min(max(power+1023+rnd.Intn(5)-2, 0), 2047)
	rest := rnd.Uint64() >> 12
	switch rnd.Intn(4) {
	case 0:
		rest = rest >> 30 << 30 // results that lie just between two numbers
	case 1:
		rest = 1<<52 - 1 - rest>>rnd.Intn(52)
	}
	return uint64(rnd.Intn(2))<<63 + uint64(power)<<52 + rest
}

// Promise 13.2: sums, products and quotients are rounded to the nearest number: by chance, with results of all sizes, many at the edges.
func TestNumbersRounded(t *testing.T) {
	rnd := rand.New(rand.NewSource(2))
	for i := 0; i < 15000 && !t.Failed(); i++ {
		power := rnd.Intn(2100) - 1050
		a := near(rnd, power)
		agree(t, "+", number(a), number(near(rnd, power-rnd.Intn(60))))
		agree(t, "-", number(a), number(near(rnd, power-rnd.Intn(60))))
		wanted := []int{1023, -1022, -1050, -1074, rnd.Intn(2000) - 1000}[rnd.Intn(5)]
		agree(t, "*", number(a), number(near(rnd, wanted-power)))
		agree(t, "/", number(a), number(near(rnd, power-wanted)))
		agree(t, "<", number(a), number(near(rnd, power)))
	}
	for i := 0; i < 15000 && !t.Failed(); i++ {
		a, b := number(rnd.Uint64()), number(rnd.Uint64())
		for _, s := range strings.Fields(signsOf[api.TypeFloat]) {
			agree(t, s, a, b)
		}
	}
}
