package val

import (
	"math/rand"
	"strings"
	"testing"

	"cupel/api"
)

// isProper tells whether an answer is one that may be: no value, or one of a type with an N of that type.
func isProper(v api.Value) bool {
	switch v.T {
	case 1:
		return true
	case 2:
		return !decode(uint64(v.N)).none || uint64(v.N) == noNumber
	case 3:
		return v.N == 0 || v.N == 1
	}
	return v == api.Value{}
}

// Promise 13.2: each sign with each pair of types, and what is no type: a value just where the types are the same and the sign is known.
func TestSignsAndTypes(t *testing.T) {
	all := append(append([]int{}, types...), noTypes...)
	for _, s := range append(strings.Fields(allSigns), "!", "=", "", "+ ", "<>", ":=") {
		for _, a := range all {
			for _, b := range all {
				got, trap := Binary(s, api.Value{T: a, N: 1}, api.Value{T: b, N: 1})
				same(t, short(s)+": what goes wrong", trap, 0)
				same(t, short(s)+": whether there is a value", got.T != 0, a == b && isKnown(s, a))
				same(t, short(s)+": whether it may be", isProper(got), true)
				if strings.Contains(" + - * / % ", " "+s+" ") && got.T != 0 {
					same(t, short(s)+": its type", got.T, a)
				} else if got.T != 0 {
					same(t, short(s)+": its type", got.T, 3)
				}
			}
		}
	}
}

// Promise 13.2: a sign that is not known, or types that are not the same, go ahead of what goes wrong by nought.
func TestNoValueAheadOfTraps(t *testing.T) {
	for _, s := range []string{"/", "%"} {
		makes(t, s, whole(1), number(plusNought), api.Value{}, 0)
		makes(t, s, number(one), whole(0), api.Value{}, 0)
		makes(t, s, whole(1), no(), api.Value{}, 0)
		makes(t, s, yes(), no(), api.Value{}, 0)
		makes(t, s, api.Value{T: 4, N: 1}, api.Value{T: 4}, api.Value{}, 0)
		makes(t, s, api.Value{}, api.Value{}, api.Value{}, 0)
	}
	makes(t, "%", number(one), number(plusNought), api.Value{}, 0)
	makes(t, "//", whole(1), whole(0), api.Value{}, 0)
}

// Promise 13.2: texts that are no sign make no value, whatever they stand between.
func TestBinaryOfAnyText(t *testing.T) {
	pairs := [][2]api.Value{{whole(7), whole(2)}, {whole(1), whole(0)}, {number(one), number(half)}, {number(one), number(plusNought)}, {yes(), no()}, {whole(1), number(one)}, {{}, {}}, {{T: 4, N: 1}, {T: 4, N: 1}}}
	for _, s := range texts() {
		for _, pair := range pairs {
			if got, trap := Binary(s, pair[0], pair[1]); !isKnown(s, pair[0].T) && (got != api.Value{} || trap != 0) {
				t.Errorf("%v %s %v: %v and %d", pair[0], short(s), pair[1], got, trap)
			}
		}
	}
}

// Rules R1 and R4: any arguments at all: each call answers, twice the same, what may be, and beside what goes wrong no value.
func TestAnyArguments(t *testing.T) {
	rnd := rand.New(rand.NewSource(4))
	values, list := edgeValues(), texts()
	signs := strings.Fields(allSigns + " ! = :=")
	some := func() api.Value {
		if rnd.Intn(3) > 0 {
			return values[rnd.Intn(len(values))]
		}
		return api.Value{T: rnd.Intn(6) - 1, N: int64(rnd.Uint64()) >> rnd.Intn(64)}
	}
	for i := 0; i < 100000 && !t.Failed(); i++ {
		a, b, s, kind := some(), some(), signs[rnd.Intn(len(signs))], rnd.Intn(6)-1
		if rnd.Intn(2) == 0 {
			b.T = a.T
		}
		if rnd.Intn(20) == 0 {
			s = list[rnd.Intn(len(list))]
		}
		agree(t, s, a, b)
		agree(t, s, a, b)
		got, trap := Binary(s, a, b)
		if !isProper(got) || trap != 0 && (trap != 3 || got != api.Value{}) {
			t.Errorf("%v %s %v: %v and %d", a, short(s), b, got, trap)
		}
		same(t, short(s)+" ahead", Unary(s, a), ahead(s, a))
		same(t, short(s)+" ahead, again", Unary(s, a), Unary(s, a))
		same(t, short(s)+" ahead: whether it may be", isProper(Unary(s, a)), true)
		agreeTurned(t, kind, a)
		agreeTurned(t, kind, a)
		same(t, "True", True(a), a.T == 3 && a.N == 1)
		same(t, short(s)+" known", Known(s, kind), isKnown(s, kind))
		same(t, "Zero", isProper(Zero(kind)), true)
		same(t, "Float", isProper(Float(Of(a))), true)
	}
}
