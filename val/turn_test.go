package val

import (
	"math"
	"math/rand"
	"testing"

	"cupel/api"
)

// Promise 13.2: - ahead of whole numbers; the least one wraps around.
func TestUnaryOfWholes(t *testing.T) {
	for _, c := range [][2]int64{{0, 0}, {1, -1}, {-1, 1}, {7, -7}, {most, -most}, {-most, most}, {least, least}, {least + 1, most}, {1<<53 + 1, -1<<53 - 1}} {
		same(t, "-", Unary("-", whole(c[0])), whole(c[1]))
	}
}

// Promise 13.2: - ahead of numbers turns the sign alone, that of nought too; what is no number stays the one value.
func TestUnaryOfNumbers(t *testing.T) {
	for _, c := range [][2]uint64{{plusNought, minusNought}, {minusNought, plusNought}, {one, minusOne}, {minusOne, one}, {aboveAll, belowAll}, {belowAll, aboveAll}, {greatest, lowest}, {lowest, greatest}, {leastAbove, leastBelow}, {leastBelow, leastAbove}, {noNumber, noNumber}} {
		same(t, "-", Unary("-", number(c[0])), number(c[1]))
	}
	for _, bits := range otherNoNumbers {
		same(t, "- of what is no number", Unary("-", number(bits)), number(noNumber))
	}
	for _, bits := range edgeBits() {
		if !decode(bits).none {
			same(t, "-", Unary("-", number(bits)), number(bits^1<<63))
			same(t, "- -", Unary("-", Unary("-", number(bits))), number(bits))
		}
	}
}

// Promise 13.2: ! ahead of yes and no.
func TestUnaryOfYesAndNo(t *testing.T) {
	same(t, "! yes", Unary("!", yes()), no())
	same(t, "! no", Unary("!", no()), yes())
	for _, n := range []int64{2, -1, 257, math.MinInt64 + 1} {
		same(t, "! of what is neither", Unary("!", api.Value{T: 3, N: n}), yes()) // it is not yes, as True tells
	}
}

// Promise 13.2: what may not stand ahead of a value makes none.
func TestUnaryOfNothing(t *testing.T) {
	for _, n := range []int64{0, 1, -1, 5, least, int64(one), int64(noNumber)} {
		same(t, "! of a whole number", Unary("!", whole(n)), api.Value{})
		same(t, "! of a number", Unary("!", number(uint64(n))), api.Value{})
		same(t, "- of yes or no", Unary("-", api.Value{T: 3, N: n}), api.Value{})
		for _, kind := range noTypes {
			same(t, "- of what is no type", Unary("-", api.Value{T: kind, N: n}), api.Value{})
			same(t, "! of what is no type", Unary("!", api.Value{T: kind, N: n}), api.Value{})
		}
	}
	for _, s := range texts() {
		if s == "-" || s == "!" {
			continue
		}
		for _, v := range []api.Value{whole(5), number(one), yes(), no(), {}, {T: 4, N: 1}} {
			if got := Unary(s, v); got != (api.Value{}) {
				t.Errorf("%s ahead of %v: %v", short(s), v, got)
			}
		}
	}
}

// Promise 13.2: a whole number as the nearest one; where two are as near, that whose last bit is 0.
func TestConvOfWholes(t *testing.T) {
	for _, c := range []struct {
		n    int64
		want float64
	}{
		{0, 0}, {1, 1}, {-1, -1}, {5, 5}, {1 << 52, 0x1p52}, {1<<53 - 1, 9007199254740991}, {1 << 53, 0x1p53},
		{1<<53 + 1, 9007199254740992}, {1<<53 + 2, 9007199254740994}, {1<<53 + 3, 9007199254740996}, {-1<<53 - 1, -9007199254740992}, {-1<<53 - 3, -9007199254740996},
		{1<<54 + 2, 18014398509481984}, {1<<54 + 3, 18014398509481988}, {1<<54 + 6, 18014398509481992}, {-1<<54 - 6, -18014398509481992},
		{most, 0x1p63}, {least, -0x1p63}, {most - 511, 0x1p63}, {most - 512, 0x1p63 - 1024}, {most - 1023, 0x1p63 - 1024}, {least + 512, -0x1p63}, {least + 513, -0x1p63 + 1024},
	} {
		becomes(t, api.TypeFloat, whole(c.n), number(math.Float64bits(c.want)), api.TrapNone)
	}
	same(t, "0 has no sign", Float(0), number(plusNought))
	becomes(t, api.TypeFloat, whole(0), number(plusNought), 0)
}

// Promise 13.2: a number cut off towards nought.
func TestConvOfNumbers(t *testing.T) {
	for _, c := range []struct {
		f    float64
		want int64
	}{
		{0, 0}, {math.Copysign(0, -1), 0}, {1, 1}, {-1, -1}, {0.5, 0}, {-0.5, 0}, {0.9999999999999999, 0}, {-0.9999999999999999, 0}, {1.5, 1}, {-1.5, -1}, {2.5, 2}, {-2.5, -2}, {1.9999999999999998, 1}, {-1.9999999999999998, -1},
		{5e-324, 0}, {-5e-324, 0}, {1e15, 1e15}, {123456789.875, 123456789}, {-123456789.875, -123456789}, {4503599627370495.5, 4503599627370495}, {-4503599627370495.5, -4503599627370495},
		{0x1p53, 1 << 53}, {0x1p53 + 2, 1<<53 + 2}, {0x1p62, 1 << 62}, {-0x1p62, -1 << 62}, {0x1p31, 1 << 31}, {0x1p32 + 0.5, 1 << 32},
	} {
		becomes(t, api.TypeInt, number(math.Float64bits(c.f)), whole(c.want), api.TrapNone)
	}
}

// Promise 13.2: numbers from -2^63 up to 2^63 - 1 have a whole number; all others, and what is no number, TrapConv and no value.
func TestConvAtTheEdges(t *testing.T) {
	becomes(t, 1, number(belowPower63), whole(most-1023), 0)
	becomes(t, 1, number(insideMinus63), whole(least+1024), 0)
	becomes(t, 1, number(minusPower63), whole(least), 0)
	wrong := append([]uint64{power63, power63 + 1, belowMinus63, math.Float64bits(0x1p64), math.Float64bits(-0x1p64), math.Float64bits(1e300), math.Float64bits(-1e300), greatest, lowest, aboveAll, belowAll, noNumber}, otherNoNumbers...)
	for _, bits := range wrong {
		becomes(t, 1, number(bits), api.Value{}, 4)
	}
	same(t, "2^63", Of(number(power63)), 9223372036854775808)
	same(t, "-2^63", Of(number(minusPower63)), -9223372036854775808)
}

// Promise 13.2: a value of that type is itself.
func TestConvToItsOwnType(t *testing.T) {
	for _, v := range edgeValues() {
		if v.T >= 1 && v.T <= 3 {
			becomes(t, v.T, v, v, 0)
		}
	}
}

// Promise 13.2: no value otherwise: of yes and no, to yes and no, of and to what is no type.
func TestConvOfNothing(t *testing.T) {
	for _, n := range []int64{0, 1, 2, -1, least, int64(one), int64(noNumber)} {
		becomes(t, 1, api.Value{T: 3, N: n}, api.Value{}, 0)
		becomes(t, 2, api.Value{T: 3, N: n}, api.Value{}, 0)
		becomes(t, 3, whole(n), api.Value{}, 0)
		becomes(t, 3, number(uint64(n)), api.Value{}, 0)
		for _, kind := range noTypes {
			for _, other := range append(types, noTypes...) {
				becomes(t, kind, api.Value{T: other, N: n}, api.Value{}, 0)
				becomes(t, other, api.Value{T: kind, N: n}, api.Value{}, 0)
			}
		}
	}
}

// agreeTurned tells that a value becomes what the chapter's words a second time make of it.
func agreeTurned(t *testing.T, kind int, a api.Value) {
	t.Helper()
	want, trap := turned(kind, a)
	becomes(t, kind, a, want, trap)
}

// Promise 13.2: signs ahead and turns of all edges, and by chance.
func TestTurnsByWords(t *testing.T) {
	rnd := rand.New(rand.NewSource(3))
	list := edgeValues()
	for range 20000 {
		list = append(list, whole(int64(rnd.Uint64())>>rnd.Intn(64)), number(rnd.Uint64()), number(near(rnd, rnd.Intn(70))))
		n := int64(1)<<(53+rnd.Intn(10)) + int64(rnd.Intn(4096)) - 2048
		list = append(list, whole(n), whole(-n))
	}
	for _, v := range list {
		for _, kind := range types {
			agreeTurned(t, kind, v)
		}
		for _, s := range []string{"-", "!", "+", "", "--"} {
			same(t, s, Unary(s, v), ahead(s, v))
		}
	}
}
