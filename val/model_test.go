package val

import (
	"math/big"

	"cupel/api"
)

// The chapter's words a second time, by numbers of any size and without the machine's own.

// wrapped is the whole number of 64 bits that a whole number of any size wraps around to.
func wrapped(n *big.Int) int64 {
	low := new(big.Int).And(n, new(big.Int).SetUint64(1<<64-1)) // as if with endless bits ahead
	return int64(low.Uint64())
}

// betweenWholes is what a known sign between two whole numbers makes, and what goes wrong.
func betweenWholes(s string, a, b int64) (api.Value, int) {
	x, y, z := big.NewInt(a), big.NewInt(b), new(big.Int)
	switch s {
	case "+":
		z.Add(x, y)
	case "-":
		z.Sub(x, y)
	case "*":
		z.Mul(x, y)
	case "/", "%":
		if b == 0 {
			return api.Value{}, 3
		}
		if z.Quo(x, y); s == "%" {
			z.Sub(x, z.Mul(z, y))
		}
	default:
		return answer(says(s, x.Cmp(y))), 0
	}
	return whole(wrapped(z)), 0
}

// says tells what a comparison says of two by whether the first one is below (-1), equal (0) or above (1).
func says(s string, order int) bool {
	switch s {
	case "<":
		return order < 0
	case "<=":
		return order <= 0
	case ">":
		return order > 0
	case ">=":
		return order >= 0
	case "==":
		return order == 0
	}
	return order != 0
}

// decoded is a number with a point, out of its bits.
type decoded struct {
	none    bool // it is no number
	endless bool // it is above all, or below all
	minus   bool
	exact   *big.Rat // else
}

func decode(bits uint64) decoded {
	d := decoded{minus: bits>>63 == 1, exact: new(big.Rat)}
	power, rest := int(bits>>52&0x7ff), int64(bits&(1<<52-1))
	switch {
	case power == 0x7ff:
		d.none, d.endless = rest != 0, rest == 0
		return d
	case power == 0:
		power = 1
	default:
		rest += 1 << 52
	}
	n, shift := big.NewInt(rest), power-1075
	if shift >= 0 {
		d.exact.SetInt(n.Lsh(n, uint(shift)))
	} else {
		d.exact.SetFrac(n, new(big.Int).Lsh(big.NewInt(1), uint(-shift)))
	}
	if d.minus {
		d.exact.Neg(d.exact)
	}
	return d
}

func (d decoded) nought() bool { return !d.none && !d.endless && d.exact.Sign() == 0 }

// signed is bits with a sign.
func signed(bits uint64, minus bool) uint64 {
	if minus {
		return bits | 1<<63
	}
	return bits
}

// rounded is the bits of the number of 64 bits that is nearest to an exact one (of two that are as near that whose last bit is 0); nought gets a sign.
func rounded(exact *big.Rat, minus bool) uint64 {
	if exact.Sign() == 0 {
		return signed(plusNought, minus)
	}
	far := new(big.Rat).Abs(exact)
	shift := max(far.Num().BitLen()-far.Denom().BitLen()-54, -1074) // of the last bit, or a bit more than that
	for {
		n, rest := scaled(far, shift)
		if n.BitLen() > 53 {
			shift++
			continue
		}
		if up := rest.Cmp(big.NewRat(1, 2)); up > 0 || up == 0 && n.Bit(0) == 1 {
			n.Add(n, big.NewInt(1))
		}
		return signed(packed(n, shift), exact.Sign() < 0)
	}
}

// scaled is a number divided by a power of two: the whole number, and what is left.
func scaled(far *big.Rat, shift int) (*big.Int, *big.Rat) {
	power := new(big.Rat).SetInt(new(big.Int).Lsh(big.NewInt(1), uint(max(shift, -shift))))
	q := new(big.Rat).Mul(far, power)
	if shift > 0 {
		q.Quo(far, power)
	}
	n := new(big.Int).Quo(q.Num(), q.Denom())
	return n, q.Sub(q, new(big.Rat).SetInt(n))
}

// packed is the bits of a whole number of at most 53 bits (or just 2^53) times a power of two, of which no bit is lost.
func packed(n *big.Int, shift int) uint64 {
	m := n.Uint64()
	if m == 1<<53 {
		m, shift = 1<<52, shift+1
	}
	switch {
	case m < 1<<52: // only where there is no lower power
		return m
	case shift > 971:
		return aboveAll
	}
	return uint64(shift+1075)<<52 + m - 1<<52
}

// betweenNumbers is what a known sign between two numbers with a point makes.
func betweenNumbers(s string, a, b uint64) api.Value {
	x, y := decode(a), decode(b)
	switch s {
	case "+":
		return number(sum(x, y))
	case "-":
		return number(sum(x, decode(b^1<<63)))
	case "*":
		return number(product(x, y))
	case "/":
		return number(quotient(x, y))
	}
	if x.none || y.none {
		return answer(s == "!=")
	}
	return answer(says(s, order(x, y)))
}

func sum(x, y decoded) uint64 {
	switch {
	case x.none || y.none, x.endless && y.endless && x.minus != y.minus:
		return noNumber
	case x.endless:
		return signed(aboveAll, x.minus)
	case y.endless:
		return signed(aboveAll, y.minus)
	}
	return rounded(new(big.Rat).Add(x.exact, y.exact), x.minus && y.minus)
}

func product(x, y decoded) uint64 {
	minus := x.minus != y.minus
	switch {
	case x.none || y.none, x.endless && y.nought(), x.nought() && y.endless:
		return noNumber
	case x.endless || y.endless:
		return signed(aboveAll, minus)
	}
	return rounded(new(big.Rat).Mul(x.exact, y.exact), minus)
}

func quotient(x, y decoded) uint64 {
	minus := x.minus != y.minus
	switch {
	case x.none || y.none, x.endless && y.endless, x.nought() && y.nought():
		return noNumber
	case x.endless || y.nought():
		return signed(aboveAll, minus)
	case y.endless:
		return signed(plusNought, minus)
	}
	return rounded(new(big.Rat).Quo(x.exact, y.exact), minus)
}

// order tells whether the first one of two numbers is below (-1), equal (0) or above (1).
func order(x, y decoded) int {
	if x.endless || y.endless {
		return side(x) - side(y)
	}
	return x.exact.Cmp(y.exact)
}

// side tells whether a number is below all, above all, or between.
func side(d decoded) int {
	switch {
	case !d.endless:
		return 0
	case d.minus:
		return -1
	}
	return 1
}

// between is what any sign between any two values makes, and what goes wrong.
func between(s string, a, b api.Value) (api.Value, int) {
	switch {
	case a.T != b.T || !isKnown(s, a.T):
		return api.Value{}, 0
	case a.T == 1:
		return betweenWholes(s, a.N, b.N)
	case a.T == 2:
		return betweenNumbers(s, uint64(a.N), uint64(b.N)), 0
	}
	x, y := a.N == 1, b.N == 1
	return answer(s == "&&" && x && y || s == "||" && (x || y) || s == "==" && x == y || s == "!=" && x != y), 0
}

// ahead is what any text ahead of any value makes.
func ahead(s string, a api.Value) api.Value {
	switch {
	case s == "-" && a.T == 1:
		return whole(wrapped(new(big.Int).Neg(big.NewInt(a.N))))
	case s == "-" && a.T == 2 && decode(uint64(a.N)).none:
		return number(noNumber)
	case s == "-" && a.T == 2:
		return number(uint64(a.N) ^ 1<<63)
	case s == "!" && a.T == 3:
		return answer(a.N != 1)
	}
	return api.Value{}
}

// turned is what any value becomes as one of any type, and what goes wrong.
func turned(kind int, a api.Value) (api.Value, int) {
	switch {
	case kind == a.T && kind >= 1 && kind <= 3:
		return a, 0
	case kind == 2 && a.T == 1:
		return number(rounded(new(big.Rat).SetInt64(a.N), false)), 0
	case kind != 1 || a.T != 2:
		return api.Value{}, 0
	}
	d := decode(uint64(a.N))
	if n := new(big.Int).Quo(d.exact.Num(), d.exact.Denom()); !d.none && !d.endless && n.IsInt64() {
		return whole(n.Int64()), 0
	}
	return api.Value{}, 4
}
