// Package integer computes with integers without a limit: the layers whose results
// have one use it for their intermediate numbers, which have none.
package integer

import (
	"cmp"
	"strconv"
)

// A Number is an integer: a natural number with a sign.
// Numbers share limbs, so limbs are never changed once they are in a number.
type Number struct {
	natural
	minus bool // never set for 0
}

// signed returns n, or -n if minus is set.
func signed(n natural, minus bool) Number {
	return Number{natural: n, minus: minus && !n.IsZero()}
}

// Of returns n.
func Of(n int) Number {
	if n < 0 {
		return signed(of(-uint64(n)), true)
	}
	return signed(of(uint64(n)), false)
}

// Read returns the number with these decimal digits, or its negative if minus is set.
// Zeros may precede the digits.
func Read(digits string, minus bool) Number {
	if len(digits) <= wordDigits {
		return signed(natural{word: word(digits)}, minus)
	}
	return signed(collect(digits), minus)
}

// Text returns the decimal digits of a, with a minus sign before them if a is negative.
func (a Number) Text() string {
	if a.isWord() {
		n := int64(a.word)
		if a.minus {
			n = -n
		}
		return strconv.FormatInt(n, 10)
	}
	text := make([]byte, a.Digits()+1)
	text[0] = '-'
	a.write(text[1:])
	if a.minus {
		return string(text)
	}
	return string(text[1:])
}

// Sign returns -1, 0 or 1 if a is negative, 0 or positive.
func (a Number) Sign() int {
	switch {
	case a.minus:
		return -1
	case a.IsZero():
		return 0
	}
	return 1
}

// Compare returns -1, 0 or 1 if a is less than, equal to or greater than b.
func (a Number) Compare(b Number) int {
	switch {
	case a.minus != b.minus:
		return cmp.Compare(a.Sign(), b.Sign())
	case a.minus:
		return b.compare(a.natural)
	}
	return a.compare(b.natural)
}

// Negative returns -a.
func (a Number) Negative() Number {
	return signed(a.natural, !a.minus)
}

// Plus returns a + b.
func (a Number) Plus(b Number) Number {
	switch {
	case a.minus == b.minus:
		return signed(a.sum(b.natural), a.minus)
	case a.compare(b.natural) >= 0:
		return signed(a.difference(b.natural), a.minus)
	}
	return signed(b.difference(a.natural), b.minus)
}

// Minus returns a - b.
func (a Number) Minus(b Number) Number {
	return a.Plus(b.Negative())
}

// Times returns a * b.
func (a Number) Times(b Number) Number {
	return signed(a.product(b.natural), a.minus != b.minus)
}

// DivMod returns the floored quotient and the remainder for a b other than 0.
func (a Number) DivMod(b Number) (q, r Number) {
	n, m := a.divide(b.natural)
	q, r = signed(n, a.minus != b.minus), signed(m, a.minus)
	if !r.IsZero() && a.minus != b.minus {
		return q.Minus(Of(1)), r.Plus(b)
	}
	return q, r
}

// Gcd returns the greatest common divisor of a and b.
func (a Number) Gcd(b Number) Number {
	return signed(a.gcd(b.natural), false)
}

// Bezout returns the greatest common divisor g of a and a b other than 0, and the
// numbers x and y with a x + b y = g for which x is from 0 to |b|/g - 1.
func (a Number) Bezout(b Number) (g, x, y Number) {
	e := euclid{a: a.natural, b: b.natural, s: of(1)}
	for !e.b.IsZero() {
		e.advance()
	}
	g = signed(e.a, false)
	n, _ := b.divide(e.a)
	_, x = signed(e.s, e.minus != a.minus).DivMod(signed(n, false))
	y, _ = g.Minus(a.Times(x)).DivMod(b)
	return g, x, y
}
