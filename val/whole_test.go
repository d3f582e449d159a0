package val

import (
	"math"
	"math/rand"
	"strings"
	"testing"

	"cupel/api"
)

const (
	least = math.MinInt64
	most  = math.MaxInt64
)

// Promise 13.2: whole numbers, one by one: those that wrap around, those cut off towards nought, rests with the sign of the first one.
func TestWholes(t *testing.T) {
	for _, c := range []struct {
		s          string
		a, b, want int64
	}{
		{"+", 2, 3, 5}, {"+", 2, -3, -1}, {"+", 0, 0, 0},
		{"+", most, 1, least}, {"+", most, most, -2}, {"+", least, least, 0}, {"+", least, -1, most}, {"+", least, most, -1},
		{"-", 2, 3, -1}, {"-", 3, 2, 1}, {"-", -2, -3, 1},
		{"-", least, 1, most}, {"-", 0, least, least}, {"-", most, -1, least}, {"-", -1, least, most}, {"-", least, least, 0}, {"-", least, most, 1}, {"-", -2, most, most},
		{"*", 6, 7, 42}, {"*", -6, 7, -42}, {"*", 6, -7, -42}, {"*", -6, -7, 42}, {"*", 0, least, 0},
		{"*", least, -1, least}, {"*", -1, least, least}, {"*", least, least, 0}, {"*", most, most, 1}, {"*", most, 2, -2}, {"*", least, most, least}, {"*", 1 << 32, 1 << 31, least}, {"*", 1 << 32, 1 << 32, 0}, {"*", 3037000500, 3037000500, -9223372036709301616},
		{"/", 7, 2, 3}, {"/", -7, 2, -3}, {"/", 7, -2, -3}, {"/", -7, -2, 3}, {"/", 1, 2, 0}, {"/", -1, 2, 0}, {"/", 6, 3, 2}, {"/", 0, 5, 0}, {"/", 0, -5, 0},
		{"/", least, -1, least}, {"/", least, 1, least}, {"/", least, least, 1}, {"/", most, -1, -most}, {"/", most, least, 0}, {"/", least, most, -1}, {"/", least, 2, -1 << 62}, {"/", -1, least, 0},
		{"%", 7, 2, 1}, {"%", -7, 2, -1}, {"%", 7, -2, 1}, {"%", -7, -2, -1}, {"%", 1, 2, 1}, {"%", -1, 2, -1}, {"%", 6, 3, 0}, {"%", -6, 3, 0}, {"%", 0, 5, 0},
		{"%", least, -1, 0}, {"%", least, 1, 0}, {"%", least, least, 0}, {"%", most, least, most}, {"%", least, most, -1}, {"%", -1, least, -1}, {"%", most, 10, 7}, {"%", least, 10, -8}, {"%", least, -10, -8},
		{"+", 1 << 53, 1, 1<<53 + 1}, {"*", 94906267, 94906267, 9007199515875289}, {"/", most, 3, 3074457345618258602}, {"-", most, 1, most - 1}, // all of the bits count
	} {
		makes(t, c.s, whole(c.a), whole(c.b), whole(c.want), api.TrapNone)
	}
}

// Promise 13.2: / and % by nought end in TrapZero, and have no value.
func TestWholesByNought(t *testing.T) {
	for _, n := range edgeWholes() {
		makes(t, "/", whole(n), whole(0), api.Value{}, 3)
		makes(t, "%", whole(n), whole(0), api.Value{}, 3)
		for _, s := range []string{"+", "-"} {
			makes(t, s, whole(n), whole(0), whole(n), 0)
		}
		makes(t, "*", whole(n), whole(0), whole(0), 0)
		if n != 0 {
			makes(t, "/", whole(0), whole(n), whole(0), 0)
			makes(t, "%", whole(0), whole(n), whole(0), 0)
		}
	}
}

// Promise 13.2: comparisons of whole numbers, in which none wraps around.
func TestWholesCompared(t *testing.T) {
	rising := []int64{least, least + 1, -1 << 53, -2, -1, 0, 1, 2, 1 << 53, 1<<53 + 1, most - 1, most}
	for i, a := range rising {
		for j, b := range rising {
			makes(t, "<", whole(a), whole(b), answer(i < j), 0)
			makes(t, "<=", whole(a), whole(b), answer(i <= j), 0)
			makes(t, ">", whole(a), whole(b), answer(i > j), 0)
			makes(t, ">=", whole(a), whole(b), answer(i >= j), 0)
			makes(t, "==", whole(a), whole(b), answer(i == j), 0)
			makes(t, "!=", whole(a), whole(b), answer(i != j), 0)
		}
	}
}

// agree tells that a sign between two values makes what the chapter's words a second time make.
func agree(t *testing.T, s string, a, b api.Value) {
	t.Helper()
	want, trap := between(s, a, b)
	makes(t, s, a, b, want, trap)
}

// Promise 13.2: each sign of whole numbers at all edges, and by chance.
func TestWholesByWords(t *testing.T) {
	rnd := rand.New(rand.NewSource(1))
	for _, s := range strings.Fields(signsOf[api.TypeInt]) {
		for _, a := range edgeWholes() {
			for _, b := range edgeWholes() {
				agree(t, s, whole(a), whole(b))
			}
		}
		for range 20000 {
			agree(t, s, whole(int64(rnd.Uint64())>>rnd.Intn(64)), whole(int64(rnd.Uint64())>>rnd.Intn(64)))
		}
	}
}

// Promise 13.2: of each quotient and rest: the one times the second, and the other, are the first.
func TestQuotientAndRest(t *testing.T) {
	for _, a := range edgeWholes() {
		for _, b := range edgeWholes() {
			if b == 0 {
				continue
			}
			q, _ := Binary("/", Int(a), Int(b))
			r, _ := Binary("%", Int(a), Int(b))
			p, _ := Binary("*", q, Int(b))
			makes(t, "+", p, r, Int(a), 0)
			if r.N < 0 && a >= 0 || r.N > 0 && a <= 0 {
				t.Errorf("%d %% %d has the sign of %d", a, b, r.N)
			}
		}
	}
}

// Promise 13.2: signs of yes and no, all of them.
func TestYesAndNo(t *testing.T) {
	for _, c := range []struct {
		s              string
		nn, ny, yn, yy bool
	}{
		{"&&", false, false, false, true},
		{"||", false, true, true, true},
		{"==", true, false, false, true},
		{"!=", false, true, true, false},
	} {
		makes(t, c.s, no(), no(), answer(c.nn), 0)
		makes(t, c.s, no(), yes(), answer(c.ny), 0)
		makes(t, c.s, yes(), no(), answer(c.yn), 0)
		makes(t, c.s, yes(), yes(), answer(c.yy), 0)
		for _, n := range []int64{2, -1, 257, 1<<32 + 1, math.MinInt64 + 1} { // what is neither is not yes, as True tells
			odd := api.Value{T: 3, N: n}
			makes(t, c.s, odd, no(), answer(c.nn), 0)
			makes(t, c.s, odd, yes(), answer(c.ny), 0)
			makes(t, c.s, yes(), odd, answer(c.yn), 0)
			makes(t, c.s, odd, odd, answer(c.nn), 0)
		}
	}
}
