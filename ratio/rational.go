package ratio

import (
	"strings"

	"torus/api"
	"torus/integer"
	"torus/whole"
)

// A rational is a rational number without a limit, or inf, which is 1/0: so the
// products that compare two numbers compare inf, too.
type rational struct {
	num, den integer.Number // without a common divisor; den is not negative
}

// An ordered type has values that can be compared, as numbers and rational numbers.
type ordered[T any] interface {
	Compare(b T) int
}

// less reports whether a is less than b.
func less[T ordered[T]](a, b T) bool {
	return a.Compare(b) < 0
}

// fromWhole returns n as a rational number.
func fromWhole(n integer.Number) rational {
	return rational{n, integer.Of(1)}
}

// number returns the number with the text a, and whether a is an integer.
func number(a api.Int) (integer.Number, bool) {
	if !whole.Valid(a) {
		return integer.Number{}, false
	}
	digits, minus := strings.CutPrefix(string(a), "-")
	return integer.Read(digits, minus), true
}

// parse returns the rational number with the text a, and whether a is one.
func parse(a api.Rat) (rational, bool) {
	top, bottom, fraction := strings.Cut(string(a), "/")
	num, ok := number(api.Int(top))
	if !ok || !fraction {
		return fromWhole(num), ok
	}
	den, ok := number(api.Int(bottom))
	one := integer.Of(1)
	if !ok || !less(one, den) || less(one, num.Gcd(den)) {
		return rational{}, false
	}
	return rational{num, den}, true
}

// parseEnd returns the end with the text a, and whether a is one.
func parseEnd(a api.Rat) (rational, bool) {
	if a == api.Inf {
		return rational{num: integer.Of(1)}, true
	}
	return parse(a)
}

// both reads two texts, and reports whether both can be read.
func both[S, T any](a, b S, read func(S) (T, bool)) (x, y T, ok bool) {
	x, ok = read(a)
	if !ok {
		return x, y, false
	}
	y, ok = read(b)
	return x, y, ok
}

// text returns a, which is not inf, as a text.
func (a rational) text() (api.Rat, api.Errno) {
	if max(a.num.Digits(), a.den.Digits()) > api.MaxDigits {
		return "", api.ErrLong
	}
	return join(api.Int(a.num.Text()), api.Int(a.den.Text())), api.OK
}

// join returns the rational number with this numerator and this denominator.
func join(num, den api.Int) api.Rat {
	if den == "1" {
		return api.Rat(num)
	}
	return api.Rat(num + "/" + den)
}

// split returns the numerator and the denominator of a, and whether a is a rational number.
func split(a api.Rat) (num, den api.Int, ok bool) {
	if !Valid(a) {
		return "", "", false
	}
	top, bottom, fraction := strings.Cut(string(a), "/")
	if !fraction {
		bottom = "1"
	}
	return api.Int(top), api.Int(bottom), true
}

// over returns the quotient of n and a divisor of it.
func over(n, divisor integer.Number) integer.Number {
	q, _ := n.DivMod(divisor)
	return q
}

// quotient returns the quotient of num and a den other than 0.
func quotient(num, den integer.Number) rational {
	g := num.Gcd(den)
	if den.Sign() < 0 {
		g = g.Negative()
	}
	return rational{over(num, g), over(den, g)}
}

// Compare returns -1, 0 or 1 if a is less than, equal to or greater than b.
func (a rational) Compare(b rational) int {
	return a.num.Times(b.den).Compare(b.num.Times(a.den))
}

// negative returns -a.
func (a rational) negative() rational {
	return rational{a.num.Negative(), a.den}
}

// inverse returns 1 / a for an a other than 0.
func (a rational) inverse() rational {
	if a.num.Sign() < 0 {
		return rational{a.den.Negative(), a.num.Negative()}
	}
	return rational{a.den, a.num}
}

// plus returns a + b.
func (a rational) plus(b rational) rational {
	g := a.den.Gcd(b.den)
	c, d := over(a.den, g), over(b.den, g)
	num := a.num.Times(d).Plus(b.num.Times(c))
	// c and d have no divisor in common with num, so what is left to cancel divides g.
	h := num.Gcd(g)
	return rational{over(num, h), c.Times(over(b.den, h))}
}

// minus returns a - b.
func (a rational) minus(b rational) rational {
	return a.plus(b.negative())
}

// times returns a * b.
func (a rational) times(b rational) rational {
	// Cancelled crosswise ahead of the products, the divisors are found in shorter numbers.
	g, h := a.num.Gcd(b.den), b.num.Gcd(a.den)
	return rational{over(a.num, g).Times(over(b.num, h)), over(a.den, h).Times(over(b.den, g))}
}

// by returns a / b for a b other than 0.
func (a rational) by(b rational) rational {
	return a.times(b.inverse())
}

// middle returns the number half-way between a and b.
func (a rational) middle(b rational) rational {
	return a.plus(b).times(rational{integer.Of(1), integer.Of(2)})
}
