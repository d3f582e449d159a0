package ast

import (
	"math"
	"strconv"
	"strings"

	"cupel/api"
)

const nought = "0"

// Digits is digits with a point in their one form: no 0 ahead but one ahead of the point, no 0 at the end but one behind it.
func Digits(s string) string {
	whole, part := halves(s)
	return orNought(strings.TrimLeft(whole, nought)) + "." + orNought(strings.TrimRight(part, nought))
}

// halves is the digits ahead of the first point, and those behind it. Any other sign is passed over, so that what is made of them is always digits.
func halves(s string) (string, string) {
	var whole, part []byte
	pointed := false
	for _, sign := range s {
		switch {
		case sign == '.':
			pointed = true
		case sign < '0' || sign > '9':
			continue
		case pointed:
			part = append(part, byte(sign))
		default:
			whole = append(whole, byte(sign))
		}
	}
	return string(whole), string(part)
}

func orNought(digits string) string {
	if digits == "" {
		return nought
	}
	return digits
}

// Bits is the bits of the number that digits with a point are: of two 64-bit numbers, the one divided by the other. Up to 15 digits it is the nearest one, as both are whole ones without a loss.
func Bits(s string) int64 {
	whole, part, _ := strings.Cut(Digits(s), ".") // noughts at the ends would make both numbers greater, and the number no other one
	f := nearest(whole+part) / nearest("1e"+strconv.Itoa(len(part)))
	if math.IsNaN(f) {
		f = math.NaN() // both were too great; machines have bits of their own for that
	}
	return int64(math.Float64bits(f))
}

// nearest is the 64-bit number that is nearest to a whole number; the one above all numbers, if that is too great.
func nearest(whole string) float64 {
	f, _ := strconv.ParseFloat(whole, 64)
	return f
}

// Float is the node of digits with a point.
func Float(s string) api.Node {
	return api.Node{Kind: api.NodeFloat, S: Digits(s), N: Bits(s)}
}
