package whole

import (
	"strings"

	"torus/api"
)

// A number is an integer without a limit: a natural number with a sign.
// Numbers share limbs, so limbs are never changed once they are in a number.
type number struct {
	natural
	minus bool // never set for 0
}

// signed returns n, or -n if minus is set.
func signed(n natural, minus bool) number {
	return number{natural: n, minus: minus && !n.isZero()}
}

// split returns the sign and the digits of a, and whether a is an integer.
func split(a api.Int) (minus bool, digits string, ok bool) {
	digits, minus = strings.CutPrefix(string(a), "-")
	if len(digits) == 0 || len(digits) > api.MaxDigits {
		return false, "", false
	}
	if digits[0] == '0' && len(a) > 1 {
		return false, "", false // a leading zero, or -0
	}
	for i := range len(digits) {
		if digits[i] < '0' || digits[i] > '9' {
			return false, "", false
		}
	}
	return minus, digits, true
}

// parse returns the number with the text a, and whether a is an integer.
func parse(a api.Int) (number, bool) {
	minus, digits, ok := split(a)
	if !ok {
		return number{}, false
	}
	return signed(collect(digits), minus), true
}

// text returns a as an integer.
func (a number) text() (api.Int, api.Errno) {
	n := a.digits()
	if n > api.MaxDigits {
		return "", api.ErrLong
	}
	text := make([]byte, n+1)
	text[0] = '-'
	a.write(text[1:])
	if a.minus {
		return api.Int(text), api.OK
	}
	return api.Int(text[1:]), api.OK
}

// negative returns -a.
func (a number) negative() number {
	return signed(a.natural, !a.minus)
}

// plus returns a + b.
func (a number) plus(b number) number {
	switch {
	case a.minus == b.minus:
		return signed(a.sum(b.natural), a.minus)
	case a.compare(b.natural) >= 0:
		return signed(a.difference(b.natural), a.minus)
	}
	return signed(b.difference(a.natural), b.minus)
}

// less returns a - b.
func (a number) less(b number) number {
	return a.plus(b.negative())
}

// times returns a * b.
func (a number) times(b number) number {
	return signed(a.product(b.natural), a.minus != b.minus)
}

// divMod returns the floored quotient and the remainder for a b other than 0.
func (a number) divMod(b number) (q, r number) {
	n, m := a.divide(b.natural)
	q, r = signed(n, a.minus != b.minus), signed(m, a.minus)
	if !r.isZero() && a.minus != b.minus {
		return q.less(number{natural: small(1)}), r.plus(b)
	}
	return q, r
}

// gcd returns the greatest common divisor of a and b.
func (a number) gcd(b number) number {
	e := euclid{a: a.natural, b: b.natural} // s stays 0: only bezout needs it
	e.run()
	return signed(e.a, false)
}

// bezout returns the greatest common divisor g of a and a b other than 0, and the
// numbers x and y with a x + b y = g for which x is from 0 to |b|/g - 1.
func (a number) bezout(b number) (g, x, y number) {
	e := euclid{a: a.natural, b: b.natural, s: small(1)}
	e.run()
	g = signed(e.a, false)
	n, _ := b.divide(e.a)
	_, x = signed(e.s, e.minus != a.minus).divMod(signed(n, false))
	y, _ = g.less(a.times(x)).divMod(b)
	return g, x, y
}
