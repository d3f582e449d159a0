package val

import (
	"math"
	"strconv"
	"strings"
	"testing"

	"cupel/api"
)

func same[T comparable](t *testing.T, what string, got, want T) {
	t.Helper()
	if got != want {
		t.Errorf("%s: %v, not %v", what, got, want)
	}
}

// short is a text that may be told of a failure.
func short(s string) string {
	if len(s) > 20 {
		s = s[:20] + ".."
	}
	return strconv.Quote(s)
}

// The types, and numbers that are none: next to them, and those that have a type's lowest bits.
var (
	types   = []int{api.TypeInt, api.TypeFloat, api.TypeBool}
	noTypes = []int{0, -1, -2, -3, 4, 5, 20, 256, 257, 258, 259, 1<<16 + 1, 1<<32 + 1, 1<<32 + 2, 1<<32 + 3, -1<<32 + 1, math.MaxInt, math.MinInt, math.MinInt + 1}
)

const allSigns = "+ - * / % < <= > >= == != && ||"

// Of chapter 12's words: the signs that may stand between two of each type.
var signsOf = []string{"", "+ - * / % < <= > >= == !=", "+ - * / < <= > >= == !=", "== != && ||"}

// isKnown tells by these lists whether a sign may stand between two of a type.
func isKnown(s string, kind int) bool {
	if kind < 1 || kind > 3 {
		return false
	}
	for _, sign := range strings.Fields(signsOf[kind]) {
		if sign == s {
			return true
		}
	}
	return false
}

// texts are all texts of a byte or two, those of three that are made of signs, and some others: far more that are no signs than are.
func texts() []string {
	list := []string{"", "+ ", " +", "\t*", "%\n", "+\x00", "\x00", "＋", "−", "×", "÷", "≤", "≥", "≠", "∧", "\xff\xfe", "and", "or", "not", "mod", "div", "int", "float", "bool", "true", "plus", "less than", "< =", "& &", "== ", "!==", strings.Repeat("+", 100), strings.Repeat("x", 70000)}
	for a := range 256 {
		list = append(list, string([]byte{byte(a)}))
		for b := range 256 {
			list = append(list, string([]byte{byte(a), byte(b)}))
		}
	}
	const parts = "+-*/%<>=!&|:^~(){},; "
	for a := range len(parts) {
		for b := range len(parts) {
			for c := range len(parts) {
				list = append(list, string([]byte{parts[a], parts[b], parts[c]}))
			}
		}
	}
	return list
}

// Bits of numbers with a point.
const (
	plusNought    uint64 = 0
	minusNought   uint64 = 1 << 63
	leastAbove    uint64 = 1                  // 2^-1074
	leastBelow    uint64 = 1<<63 + 1          // -2^-1074
	lastSmall     uint64 = 0x000fffffffffffff // the greatest one that is not whole in its bits
	firstNormal   uint64 = 0x0010000000000000 // 2^-1022
	half          uint64 = 0x3fe0000000000000
	one           uint64 = 0x3ff0000000000000
	minusOne      uint64 = 0xbff0000000000000
	greatest      uint64 = 0x7fefffffffffffff
	lowest        uint64 = 0xffefffffffffffff
	aboveAll      uint64 = 0x7ff0000000000000
	belowAll      uint64 = 0xfff0000000000000
	noNumber      uint64 = 0x7ff8000000000001 // the one value's
	power63       uint64 = 0x43e0000000000000 // 2^63
	belowPower63  uint64 = 0x43dfffffffffffff // 2^63 - 1024
	minusPower63  uint64 = 0xc3e0000000000000 // -2^63
	belowMinus63  uint64 = 0xc3e0000000000001 // -2^63 - 2048
	insideMinus63 uint64 = 0xc3dfffffffffffff // -2^63 + 1024
)

// otherNoNumbers are bits of what is no number, too, but not the one value's: those that machines make, quiet ones and loud ones, of both signs.
var otherNoNumbers = []uint64{0x7ff8000000000000, 0xfff8000000000000, 0xfff8000000000001, 0x7ff0000000000001, 0xfff0000000000001, 0x7ff4000000000000, 0x7ff8000000000002, 0x7fffffffffffffff, 0xffffffffffffffff, 0x7ff7ffffffffffff}

// edgeBits are numbers with a point at their edges, and some that are not.
func edgeBits() []uint64 {
	list := []uint64{plusNought, leastAbove, 2, 3, lastSmall - 1, lastSmall, firstNormal, firstNormal + 1, half, half - 1, half + 1, one - 1, one, one + 1, one + 2, greatest - 1, greatest, aboveAll, power63, power63 + 1, belowPower63}
	for _, f := range []float64{0.1, 0.2, 0.3, 1.5, 2, 2.5, 3, 7, 10, 1e15, 123456789.125, 1.0 / 3, 1 << 52, 1<<52 + 0.5, 1 << 53, 1<<53 - 1, 1<<53 + 2, 1 << 62, 1 << 64, 1e-300, 1e300, 1e154, 1e155, 0x1p-537, 0x1p-538, 0x1p-1073, 0x1p1023, 0x1p970, 0x1p969} {
		list = append(list, math.Float64bits(f))
	}
	for _, bits := range list {
		list = append(list, bits|1<<63)
	}
	return append(append(list, noNumber), otherNoNumbers...)
}

// edgeWholes are whole numbers at their edges, and some that are not.
func edgeWholes() []int64 {
	list := []int64{0, math.MinInt64, math.MinInt64 + 1, math.MinInt64 + 2, math.MaxInt64, math.MaxInt64 - 1}
	for _, n := range []int64{1, 2, 3, 5, 7, 10, 255, 256, 1<<31 - 1, 1 << 31, 1 << 32, 3037000499, 3037000500, 1<<53 - 1, 1 << 53, 1<<53 + 1, 1<<53 + 2, 1<<53 + 3, 1<<54 + 2, 1<<54 + 6, 1<<62 - 1, 1 << 62, 1<<62 + 1, 1<<63 - 512, 1<<63 - 513, 1<<63 - 1024} {
		list = append(list, n, -n)
	}
	return list
}

// Values by what they are made of.
func whole(n int64) api.Value      { return api.Value{T: 1, N: n} }
func number(bits uint64) api.Value { return api.Value{T: 2, N: int64(bits)} }
func yes() api.Value               { return api.Value{T: 3, N: 1} }
func no() api.Value                { return api.Value{T: 3} }

// answer is yes or no.
func answer(b bool) api.Value {
	if b {
		return yes()
	}
	return no()
}

// edgeValues are values of all types, and what is none: a type that is none, an N that is none of the type.
func edgeValues() []api.Value {
	var list []api.Value
	for _, n := range edgeWholes() {
		list = append(list, whole(n))
	}
	for _, bits := range edgeBits() {
		list = append(list, number(bits))
	}
	for _, n := range []int64{0, 1, 2, 3, -1, 256, 257, 1<<32 + 1, math.MinInt64, math.MinInt64 + 1, math.MaxInt64, int64(one)} {
		list = append(list, api.Value{T: 3, N: n})
	}
	for _, kind := range noTypes {
		for _, n := range []int64{0, 1, 2, -1, math.MinInt64, int64(one), int64(noNumber)} {
			list = append(list, api.Value{T: kind, N: n})
		}
	}
	return list
}

// makes tells what a sign between two values makes.
func makes(t *testing.T, s string, a, b, want api.Value, trap int) {
	t.Helper()
	got, wrong := Binary(s, a, b)
	if got != want || wrong != trap {
		t.Errorf("%v %s %v: %v and %d, not %v and %d", a, short(s), b, got, wrong, want, trap)
	}
}

// becomes tells what a value becomes as one of a type.
func becomes(t *testing.T, kind int, a, want api.Value, trap int) {
	t.Helper()
	got, wrong := Conv(kind, a)
	if got != want || wrong != trap {
		t.Errorf("%v as of type %d: %v and %d, not %v and %d", a, kind, got, wrong, want, trap)
	}
}
