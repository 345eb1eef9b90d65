// Package modp computes in fields with a prime number of elements (layer 1).
package modp

import (
	"math/bits"

	"torus/api"
)

// primes holds a bit for each number up to 255, which is set for the primes up
// to api.MaxPrime. Every operation checks its prime, and the layers above call
// operations for each term of each column: trial divisions would dominate.
var primes = [4]uint64{
	0x28208a20a08a28ac,
	0x800228a202088288,
	0x8028208820a00a08,
	0x08028228800800a2,
}

// Prime reports whether p is a prime number from 2 to api.MaxPrime.
func Prime(p int) bool {
	return p >= 2 && p <= api.MaxPrime && primes[p/64]>>(p%64)&1 == 1
}

// residue returns the residue of a modulo m, which is positive.
func residue(m, a int) int {
	r := a % m
	if r < 0 {
		return r + m
	}
	return r
}

// Mod returns the residue of a modulo the prime p (0 if p is none).
func Mod(p, a int) int {
	if !Prime(p) {
		return 0
	}
	return residue(p, a)
}

// Add returns a + b.
func Add(p, a, b int) (int, api.Errno) {
	if !Prime(p) {
		return 0, api.ErrPrime
	}
	// Here and below residues are combined: the arguments themselves could wrap around.
	return (residue(p, a) + residue(p, b)) % p, api.OK
}

// Sub returns a - b.
func Sub(p, a, b int) (int, api.Errno) {
	if !Prime(p) {
		return 0, api.ErrPrime
	}
	return residue(p, residue(p, a)-residue(p, b)), api.OK
}

// Mul returns a * b.
func Mul(p, a, b int) (int, api.Errno) {
	if !Prime(p) {
		return 0, api.ErrPrime
	}
	return residue(p, a) * residue(p, b) % p, api.OK
}

// Div returns a / b.
func Div(p, a, b int) (int, api.Errno) {
	i, e := Inv(p, b)
	if e != api.OK {
		return 0, e
	}
	return Mul(p, a, i)
}

// unit returns the residue of a, which must not be 0.
func unit(p, a int) (int, api.Errno) {
	if !Prime(p) {
		return 0, api.ErrPrime
	}
	r := residue(p, a)
	if r == 0 {
		return 0, api.ErrZero
	}
	return r, api.OK
}

// Inv returns the inverse of a.
func Inv(p, a int) (int, api.Errno) {
	r, e := unit(p, a)
	if e != api.OK {
		return 0, e
	}
	return power(p, r, p-2), api.OK // as a^(p - 1) is 1
}

// power returns the residue a to the power of n, which is not negative.
func power(p, a, n int) int {
	x := 1
	for i := range bits.Len(uint(n)) {
		if n>>i&1 == 1 {
			x = x * a % p
		}
		a = a * a % p
	}
	return x
}

// Pow returns a to the power of n.
func Pow(p, a, n int) (int, api.Errno) {
	if !Prime(p) {
		return 0, api.ErrPrime
	}
	r := residue(p, a)
	if r != 0 {
		// As a^(p - 1) is 1, this keeps the power and leaves no negative exponent.
		return power(p, r, residue(p-1, n)), api.OK
	}
	if n < 0 {
		return 0, api.ErrZero
	}
	return power(p, 0, n), api.OK
}

// Order returns the least n from 1 on for which a to the power of n is 1.
func Order(p, a int) (int, api.Errno) {
	r, e := unit(p, a)
	if e != api.OK {
		return 0, e
	}
	n := 1
	for x := r; x != 1; x = x * r % p {
		n++
	}
	return n, api.OK
}

// Generator returns the least element of the order p - 1.
func Generator(p int) (int, api.Errno) {
	if !Prime(p) {
		return 0, api.ErrPrime
	}
	g := 1
search:
	for ; g < p; g++ {
		x := 1
		for n := 1; n < p; n++ {
			x = x * g % p
			if x == 1 && n == p-1 {
				break search
			}
			if x == 1 {
				break // the order of g is too small
			}
		}
	}
	return g, api.OK
}

// Log returns the least n from 0 on for which base to the power of n is a.
func Log(p, base, a int) (int, api.Errno) {
	b, e := unit(p, base)
	if e != api.OK {
		return 0, e
	}
	r, e := unit(p, a)
	if e != api.OK {
		return 0, e
	}
	x := 1
	for n := range p - 1 { // from p - 1 on the powers repeat
		if x == r {
			return n, api.OK
		}
		x = x * b % p
	}
	return 0, api.ErrNone
}

// Root returns the lesser one of the residues whose square is a.
func Root(p, a int) (int, api.Errno) {
	if !Prime(p) {
		return 0, api.ErrPrime
	}
	r := residue(p, a)
	for x := range p {
		if x*x%p == r {
			return x, api.OK
		}
	}
	return 0, api.ErrNone
}

// Sum returns the sum of all elements of l.
func Sum(p int, l []int) (int, api.Errno) {
	if !Prime(p) {
		return 0, api.ErrPrime
	}
	s := 0
	for _, a := range l {
		s = (s + residue(p, a)) % p
	}
	return s, api.OK
}
