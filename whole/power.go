package whole

import (
	"math/bits"
	"strings"

	"torus/api"
	"torus/integer"
)

// power returns a^n for an n from 0 on, or some number of more than api.MaxDigits
// digits if a^n has as many.
func power(a integer.Number, n int) integer.Number {
	x := integer.Of(1)
	for i := bits.Len(uint(n)) - 1; i >= 0; i-- {
		x = x.Times(x)
		if n>>i&1 == 1 {
			x = x.Times(a)
		}
		if x.Digits() > api.MaxDigits {
			break // a^n has no fewer digits than x
		}
	}
	return x
}

// root returns the greatest number whose square is at most a, which is not negative.
func root(a integer.Number) integer.Number {
	if a.IsZero() {
		return a // below 1 the search would divide by 0
	}
	x := integer.Read("1"+strings.Repeat("0", (a.Digits()+1)/2), false) // greater than the root
	for {
		q, _ := a.DivMod(x)
		y, _ := x.Plus(q).DivMod(integer.Of(2))
		if y.Compare(x) >= 0 {
			return x
		}
		x = y
	}
}
