package ratio

import (
	"torus/api"
	"torus/integer"
)

// expand returns the expansion of a.
func expand(a rational) []integer.Number {
	var terms []integer.Number
	x, y := a.num, a.den
	for !y.IsZero() {
		q, r := x.DivMod(y)
		terms = append(terms, q)
		x, y = y, r
	}
	return terms
}

// collapse returns the number c(0) + 1/(c(1) + 1/(.. + 1/c(n))) for terms of which all
// but the first one are at least 1, or some number with a denominator of more than
// api.MaxDigits digits if that number has one.
func collapse(terms []integer.Number) rational {
	x, before := rational{num: integer.Of(1)}, rational{den: integer.Of(1)}
	for _, c := range terms {
		next := rational{c.Times(x.num).Plus(before.num), c.Times(x.den).Plus(before.den)}
		x, before = next, x
		if x.den.Digits() > api.MaxDigits {
			break // the denominators that follow are no less
		}
	}
	return x
}

// simplest returns the simplest number from a to b, both included, for a positive a and
// a b that is not less, and may be inf.
func simplest(a, b rational) rational {
	var terms []integer.Number
	for {
		floor, rest := a.num.DivMod(a.den)
		next := floor // the least integer that is not less than a
		if !rest.IsZero() {
			next = floor.Plus(integer.Of(1))
		}
		if !less(b, fromWhole(next)) {
			return collapse(append(terms, next))
		}
		// No integer lies from a to b, so all numbers there have the same floor, and the
		// simplest one is the one for which 1 / (number - floor) is the simplest one.
		terms = append(terms, floor)
		above := b.num.Minus(floor.Times(b.den))
		a, b = rational{b.den, above}, rational{a.den, rest}
	}
}
