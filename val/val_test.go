package val

import (
	"math"
	"testing"

	"cupel/api"
)

// The chapter's numbers, as package api tells them.
func TestNumbersOfTheChapter(t *testing.T) {
	same(t, "TypeInt", api.TypeInt, 1)
	same(t, "TypeFloat", api.TypeFloat, 2)
	same(t, "TypeBool", api.TypeBool, 3)
	same(t, "TrapNone", api.TrapNone, 0)
	same(t, "TrapZero", api.TrapZero, 3)
	same(t, "TrapConv", api.TrapConv, 4)
	same(t, "what is no number", noNumber, math.Float64bits(math.NaN()))
}

// Promise 13.1: a whole number's value has it as it is.
func TestInt(t *testing.T) {
	for _, n := range edgeWholes() {
		same(t, "a whole number", Int(n), api.Value{T: 1, N: n})
	}
}

// Promise 13.1: a number's value has its bits, the sign of nought among them.
func TestFloat(t *testing.T) {
	for _, c := range []struct {
		f    float64
		bits uint64
	}{
		{0, 0}, {math.Copysign(0, -1), 1 << 63},
		{1, 0x3ff0000000000000}, {-1, 0xbff0000000000000}, {0.5, 0x3fe0000000000000}, {7.5, 0x401e000000000000}, {0.1, 0x3fb999999999999a}, {-0.1, 0xbfb999999999999a},
		{math.SmallestNonzeroFloat64, 1}, {-math.SmallestNonzeroFloat64, 1<<63 + 1},
		{math.MaxFloat64, greatest}, {-math.MaxFloat64, lowest},
		{math.Inf(1), aboveAll}, {math.Inf(-1), belowAll},
		{1 << 53, 0x4340000000000000}, {1 << 63, power63}, {-1 << 63, minusPower63},
	} {
		same(t, "a number", Float(c.f), api.Value{T: 2, N: int64(c.bits)})
	}
	for _, bits := range edgeBits() {
		if f := math.Float64frombits(bits); f == f {
			same(t, "a number at an edge", Float(f), api.Value{T: 2, N: int64(bits)})
		}
	}
}

// Words: of what is no number there is one value alone, whatever bits it comes with.
func TestOneValueOfNoNumber(t *testing.T) {
	want := api.Value{T: 2, N: 0x7ff8000000000001}
	same(t, "math.NaN()", Float(math.NaN()), want)
	for _, bits := range otherNoNumbers {
		same(t, "other bits", Float(math.Float64frombits(bits)), want)
		same(t, "other bits of a value", Float(Of(number(bits))), want)
	}
	inf, nought := math.Inf(1), math.Copysign(0, -1)
	for _, f := range []float64{inf - inf, nought / nought, nought * inf, inf / -inf, -math.NaN(), math.Sqrt(-1), math.Log(-1), math.Mod(1, 0)} {
		same(t, "what the machine makes", Float(f), want)
	}
}

// Promise 13.1: yes is 1, no is 0.
func TestBool(t *testing.T) {
	same(t, "yes", Bool(true), api.Value{T: 3, N: 1})
	same(t, "no", Bool(false), api.Value{T: 3, N: 0})
}

// Promise 13.1: the number of the bits, nought's sign with it.
func TestOf(t *testing.T) {
	for _, bits := range edgeBits() {
		f := Of(number(bits))
		if decode(bits).none {
			same(t, "whether it is no number", math.IsNaN(f), true)
			continue
		}
		same(t, "the number's bits", math.Float64bits(f), bits)
		same(t, "there and back", Float(f), number(bits))
	}
	same(t, "1.0", Of(api.Value{T: 2, N: 0x3ff0000000000000}), 1)
	same(t, "7.5", Of(api.Value{T: 2, N: 0x401e000000000000}), 7.5)
	same(t, "the sign of -0.0", math.Signbit(Of(api.Value{T: 2, N: math.MinInt64})), true)
	same(t, "the sign of 0.0", math.Signbit(Of(api.Value{T: 2})), false)
	same(t, "above all", math.IsInf(Of(number(aboveAll)), 1), true)
	same(t, "below all", math.IsInf(Of(number(belowAll)), -1), true)
	for _, f := range []float64{0.1, -2.5, 1e300, -5e-324} {
		same(t, "of Float", Of(Float(f)), f)
	}
}

// Promise 13.1: the bits are those of N, whatever the type.
func TestOfOtherTypes(t *testing.T) {
	for _, kind := range append([]int{1, 3}, noTypes...) {
		same(t, "1 as bits", Of(api.Value{T: kind, N: 1}), math.SmallestNonzeroFloat64)
		same(t, "those of 1.0", Of(api.Value{T: kind, N: int64(one)}), 1)
		same(t, "none", math.Float64bits(Of(api.Value{T: kind})), 0)
	}
}

// Promise 13.1: each type's value at the beginning; what is no type has no value.
func TestZero(t *testing.T) {
	same(t, "of whole numbers", Zero(1), api.Value{T: 1, N: 0})
	same(t, "of numbers with a point", Zero(2), api.Value{T: 2, N: 0})
	same(t, "of yes and no", Zero(3), api.Value{T: 3, N: 0})
	for _, kind := range noTypes {
		same(t, "of what is no type", Zero(kind), api.Value{})
	}
}

// Promise 13.1: only yes is true: neither no, nor another N, nor another type's 1.
func TestTrue(t *testing.T) {
	same(t, "yes", True(api.Value{T: 3, N: 1}), true)
	same(t, "no", True(api.Value{T: 3, N: 0}), false)
	same(t, "Bool(true)", True(Bool(true)), true)
	same(t, "Bool(false)", True(Bool(false)), false)
	for _, n := range []int64{2, 3, -1, 256, 257, 1<<32 + 1, math.MinInt64 + 1, math.MaxInt64, math.MinInt64, int64(one)} {
		same(t, "neither yes nor no", True(api.Value{T: 3, N: n}), false)
	}
	for _, kind := range append([]int{1, 2}, noTypes...) {
		for _, n := range []int64{0, 1, 2, -1, int64(one)} {
			same(t, "another type", True(api.Value{T: kind, N: n}), false)
		}
	}
	for _, v := range edgeValues() {
		same(t, "any", True(v), v.T == 3 && v.N == 1)
	}
}

// Promise 13.1: each sign at each type, one by one.
func TestKnown(t *testing.T) {
	for _, c := range []struct {
		s       string
		i, f, b bool
	}{
		{"+", true, true, false}, {"-", true, true, false}, {"*", true, true, false}, {"/", true, true, false},
		{"%", true, false, false},
		{"<", true, true, false}, {"<=", true, true, false}, {">", true, true, false}, {">=", true, true, false},
		{"==", true, true, true}, {"!=", true, true, true},
		{"&&", false, false, true}, {"||", false, false, true},
		{"!", false, false, false}, {"=", false, false, false}, {"", false, false, false},
	} {
		same(t, c.s+" of whole numbers", Known(c.s, 1), c.i)
		same(t, c.s+" of numbers with a point", Known(c.s, 2), c.f)
		same(t, c.s+" of yes and no", Known(c.s, 3), c.b)
		for _, kind := range noTypes {
			same(t, c.s+" of what is no type", Known(c.s, kind), false)
		}
	}
}

// Promise 13.1: of all other texts none is a sign.
func TestKnownOfAnyText(t *testing.T) {
	count := 0
	for _, s := range texts() {
		for _, kind := range append(types, noTypes...) {
			if Known(s, kind) != isKnown(s, kind) {
				t.Errorf("%s at type %d: %v", short(s), kind, Known(s, kind))
			}
			if Known(s, kind) {
				count++
			}
		}
	}
	same(t, "signs at their types", count, 11+10+4)
}
