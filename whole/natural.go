package whole

import (
	"cmp"
	"math/bits"
	"slices"
	"strings"

	"torus/api"
)

// A limb is a digit to the base, so that limbs turn into decimal digits one by one.
const (
	base       = 1_000_000_000
	limbDigits = 9
)

// A natural is an integer from 0 on: its limbs, the lowest one first, without zeros at the end.
type natural struct {
	limbs []uint64
}

// trim returns the number with these limbs, which may end with zeros.
func trim(limbs []uint64) natural {
	n := len(limbs)
	for n > 0 && limbs[n-1] == 0 {
		n--
	}
	return natural{limbs[:n:n]}
}

// small returns a number less than base.
func small(n uint64) natural {
	return trim([]uint64{n})
}

// collect returns the number with these decimal digits.
func collect(digits string) natural {
	limbs := make([]uint64, 0, len(digits)/limbDigits+1)
	for end := len(digits); end > 0; end -= limbDigits {
		limb := uint64(0)
		for i := max(0, end-limbDigits); i < end; i++ {
			limb = limb*10 + uint64(digits[i]-'0')
		}
		limbs = append(limbs, limb)
	}
	return trim(limbs)
}

// digits returns the number of decimal digits of a.
func (a natural) digits() int {
	n := len(a.limbs)
	if n == 0 {
		return 1 // 0 is written, too
	}
	d := (n - 1) * limbDigits
	for top := a.limbs[n-1]; top > 0; top /= 10 {
		d++
	}
	return d
}

// write writes the decimal digits of a, which fill the text.
func (a natural) write(text []byte) {
	end := len(text)
	for _, limb := range a.limbs {
		start := max(0, end-limbDigits)
		group := text[start:end:end]
		for i := len(group) - 1; i >= 0; i-- {
			group[i] = '0' + byte(limb%10)
			limb /= 10
		}
		end = start
	}
	if a.isZero() {
		text[0] = '0'
	}
}

func (a natural) isZero() bool { return len(a.limbs) == 0 }

// compare returns -1, 0 or 1 if a is less than, equal to or greater than b.
func (a natural) compare(b natural) int {
	if c := cmp.Compare(len(a.limbs), len(b.limbs)); c != 0 {
		return c
	}
	for i := len(a.limbs) - 1; i >= 0; i-- {
		if c := cmp.Compare(a.limbs[i], b.limbs[i]); c != 0 {
			return c
		}
	}
	return 0
}

// addTo adds the limbs v to u, which has at least as many, and returns what is left over.
func addTo(u, v []uint64) uint64 {
	carry := uint64(0)
	for i := range u {
		carry += u[i]
		if i < len(v) {
			carry += v[i]
		}
		u[i] = carry % base
		carry /= base
	}
	return carry
}

// takeFrom subtracts q times the limbs v from u, which has at least as many,
// and returns what is still owed to the limb above u.
func takeFrom(u, v []uint64, q uint64) uint64 {
	owed := uint64(0)
	for i := range u {
		if i < len(v) {
			owed += q * v[i]
		}
		low := owed % base
		owed /= base
		if u[i] < low {
			u[i] += base
			owed++
		}
		u[i] -= low
	}
	return owed
}

// sum returns a + b.
func (a natural) sum(b natural) natural {
	limbs := make([]uint64, max(len(a.limbs), len(b.limbs))+1)
	copy(limbs, a.limbs)
	addTo(limbs, b.limbs)
	return trim(limbs)
}

// difference returns a - b for a b of at most a.
func (a natural) difference(b natural) natural {
	limbs := slices.Clone(a.limbs)
	takeFrom(limbs, b.limbs, 1)
	return trim(limbs)
}

// product returns a * b.
func (a natural) product(b natural) natural {
	limbs := make([]uint64, len(a.limbs)+len(b.limbs))
	for i, x := range a.limbs {
		carry := uint64(0)
		for j, y := range b.limbs {
			carry += limbs[i+j] + x*y
			limbs[i+j] = carry % base
			carry /= base
		}
		limbs[i+len(b.limbs)] = carry
	}
	return trim(limbs)
}

// divide returns the quotient and the remainder of a and a b other than 0.
func (a natural) divide(b natural) (q, r natural) {
	if a.compare(b) < 0 {
		return natural{}, a
	}
	n := len(b.limbs)
	rest := append(slices.Clone(a.limbs), 0)
	quotient := make([]uint64, len(rest)-n)
	for i := len(quotient) - 1; i >= 0; i-- {
		quotient[i] = reduce(rest[i:i+n+1:i+n+1], b.limbs)
	}
	return trim(quotient), trim(rest)
}

// reduce leaves the remainder of u and v in u and returns the quotient, which must be
// a limb; u has one limb more than v, whose last limb is not 0.
func reduce(u, v []uint64) uint64 {
	q := estimate(u, v)
	if takeFrom(u, v, q) > 0 {
		addTo(u, v)
		q--
	}
	return q
}

// estimate returns the quotient of u and v as in reduce, or one more: the quotient of
// their highest limbs. Two limbs of v are enough for that, as they make at least base.
func estimate(u, v []uint64) uint64 {
	n := len(v)
	top := u[n]*base + u[n-1]
	if n == 1 {
		return top / v[0]
	}
	high, low := bits.Mul64(top, base)
	low, carry := bits.Add64(low, u[n-2], 0)
	// high stays below base and the divisor does not, so the quotient fits in a word.
	q, _ := bits.Div64(high+carry, low, v[n-1]*base+v[n-2])
	return q
}

// power returns a^n for an n from 0 on, or some number of more than api.MaxDigits
// digits if a^n has as many.
func (a natural) power(n int) natural {
	x := small(1)
	for i := bits.Len(uint(n)) - 1; i >= 0; i-- {
		x = x.product(x)
		if n>>i&1 == 1 {
			x = x.product(a)
		}
		if x.digits() > api.MaxDigits {
			break // a^n has no fewer digits than x
		}
	}
	return x
}

// root returns the greatest number whose square is at most a.
func (a natural) root() natural {
	if a.isZero() {
		return a // below 1 the search would divide by 0
	}
	x := collect("1" + strings.Repeat("0", (a.digits()+1)/2)) // greater than the root
	for {
		q, _ := a.divide(x)
		y, _ := x.sum(q).divide(small(2))
		if y.compare(x) >= 0 {
			return x
		}
		x = y
	}
}
