package integer

import (
	"cmp"
	"math/bits"
	"slices"
)

// A limb is a digit to the base, so that limbs turn into decimal digits one by one.
const (
	base       = 1_000_000_000
	limbDigits = 9
)

// Words are numbers that need at most two limbs. So the sum of two words fits in an int64.
const (
	wordEnd    = base * base
	wordDigits = 2 * limbDigits
)

// A natural is an integer from 0 on. Most of them are short, and machine words are
// several times faster than limbs.
type natural struct {
	word  uint64   // the number if it is a word, and otherwise 0
	limbs []uint64 // the limbs of a number that is no word, the lowest one first, without zeros at the end
}

// of returns n.
func of(n uint64) natural {
	if n < wordEnd {
		return natural{word: n}
	}
	return natural{limbs: []uint64{n % base, n / base % base, n / wordEnd}}
}

// trim returns the number with these limbs, which may end with zeros.
func trim(limbs []uint64) natural {
	n := len(limbs)
	for n > 0 && limbs[n-1] == 0 {
		n--
	}
	switch n {
	case 0:
		return natural{}
	case 1:
		return natural{word: limbs[0]}
	case 2:
		return natural{word: limbs[1]*base + limbs[0]}
	}
	return natural{limbs: limbs[:n:n]}
}

// spread returns the limbs of a, also if it is a word.
func (a natural) spread() []uint64 {
	switch {
	case !a.isWord():
		return a.limbs
	case a.word >= base:
		return []uint64{a.word % base, a.word / base}
	case a.word > 0:
		return []uint64{a.word}
	}
	return nil
}

// collect returns the number with these decimal digits.
func collect(digits string) natural {
	limbs := make([]uint64, 0, len(digits)/limbDigits+1)
	for end := len(digits); end > 0; end -= limbDigits {
		limbs = append(limbs, word(digits[max(0, end-limbDigits):end]))
	}
	return trim(limbs)
}

// word returns the number with these decimal digits, of which there are at most wordDigits.
func word(digits string) uint64 {
	n := uint64(0)
	for i := range len(digits) {
		n = n*10 + uint64(digits[i]-'0')
	}
	return n
}

// length returns the number of decimal digits of n; 0 has none.
func length(n uint64) int {
	d := 0
	for ; n > 0; n /= 10 {
		d++
	}
	return d
}

// Digits returns the number of decimal digits of a.
func (a natural) Digits() int {
	if a.isWord() {
		return max(1, length(a.word)) // 0 is written, too
	}
	n := len(a.limbs) - 1
	return n*limbDigits + length(a.limbs[n])
}

// write writes the decimal digits of an a that is no word; they fill the text.
func (a natural) write(text []byte) {
	end := len(text)
	for _, limb := range a.limbs {
		start := max(0, end-limbDigits)
		group := text[start:end:end]
		for i := len(group) - 1; i >= 0; i-- {
			group[i] = '0' + byte(limb%10)
			limb /= 10
		}
		end = start
	}
}

func (a natural) isWord() bool { return len(a.limbs) == 0 }

// IsZero reports whether a is 0.
func (a natural) IsZero() bool { return a.isWord() && a.word == 0 }

// compare returns -1, 0 or 1 if a is less than, equal to or greater than b.
func (a natural) compare(b natural) int {
	if c := cmp.Compare(len(a.limbs), len(b.limbs)); c != 0 {
		return c
	}
	for i := len(a.limbs) - 1; i >= 0; i-- {
		if c := cmp.Compare(a.limbs[i], b.limbs[i]); c != 0 {
			return c
		}
	}
	return cmp.Compare(a.word, b.word)
}

// addTo adds the limbs v to u, which has at least as many, and returns what is left over.
func addTo(u, v []uint64) uint64 {
	carry := uint64(0)
	for i := range u {
		carry += u[i]
		if i < len(v) {
			carry += v[i]
		}
		u[i] = carry % base
		carry /= base
	}
	return carry
}

// takeFrom subtracts q times the limbs v from u, which has at least as many,
// and returns what is still owed to the limb above u.
func takeFrom(u, v []uint64, q uint64) uint64 {
	owed := uint64(0)
	for i := range u {
		if i < len(v) {
			owed += q * v[i]
		}
		low := owed % base
		owed /= base
		if u[i] < low {
			u[i] += base
			owed++
		}
		u[i] -= low
	}
	return owed
}

// sum returns a + b.
func (a natural) sum(b natural) natural {
	if a.isWord() && b.isWord() {
		return of(a.word + b.word)
	}
	x, y := a.spread(), b.spread()
	limbs := make([]uint64, max(len(x), len(y))+1)
	copy(limbs, x)
	addTo(limbs, y)
	return trim(limbs)
}

// difference returns a - b for a b of at most a.
func (a natural) difference(b natural) natural {
	if a.isWord() {
		return natural{word: a.word - b.word}
	}
	limbs := slices.Clone(a.limbs)
	takeFrom(limbs, b.spread(), 1)
	return trim(limbs)
}

// product returns a * b.
func (a natural) product(b natural) natural {
	if a.isWord() && b.isWord() {
		if high, low := bits.Mul64(a.word, b.word); high == 0 {
			return of(low)
		}
	}
	u, v := a.spread(), b.spread()
	limbs := make([]uint64, len(u)+len(v))
	for i, x := range u {
		carry := uint64(0)
		for j, y := range v {
			carry += limbs[i+j] + x*y
			limbs[i+j] = carry % base
			carry /= base
		}
		limbs[i+len(v)] = carry
	}
	return trim(limbs)
}

// divide returns the quotient and the remainder of a and a b other than 0.
func (a natural) divide(b natural) (q, r natural) {
	switch {
	case a.compare(b) < 0:
		return natural{}, a
	case a.isWord():
		return natural{word: a.word / b.word}, natural{word: a.word % b.word}
	}
	v := b.spread()
	n := len(v)
	rest := append(slices.Clone(a.limbs), 0)
	quotient := make([]uint64, len(rest)-n)
	for i := len(quotient) - 1; i >= 0; i-- {
		quotient[i] = reduce(rest[i:i+n+1:i+n+1], v)
	}
	return trim(quotient), trim(rest)
}

// reduce leaves the remainder of u and v in u and returns the quotient, which must be
// a limb; u has one limb more than v, whose last limb is not 0.
func reduce(u, v []uint64) uint64 {
	q := estimate(u, v)
	if takeFrom(u, v, q) > 0 {
		addTo(u, v)
		q--
	}
	return q
}

// estimate returns the quotient of u and v as in reduce, or one more: the quotient of
// their highest limbs. Two limbs of v are enough for that, as they make at least base.
func estimate(u, v []uint64) uint64 {
	n := len(v)
	top := u[n]*base + u[n-1]
	if n == 1 {
		return top / v[0]
	}
	high, low := bits.Mul64(top, base)
	low, carry := bits.Add64(low, u[n-2], 0)
	// high stays below base and the divisor does not, so the quotient fits in a word.
	q, _ := bits.Div64(high+carry, low, v[n-1]*base+v[n-2])
	return q
}

// gcd returns the greatest common divisor of a and b.
func (a natural) gcd(b natural) natural {
	e := euclid{a: a, b: b} // s stays 0: only the factors of Bezout need it
	for !e.b.IsZero() && !(e.a.isWord() && e.b.isWord()) {
		e.advance()
	}
	x, y := e.a.word, e.b.word
	if !e.a.isWord() {
		return e.a
	}
	for y != 0 {
		x, y = y, x%y
	}
	return natural{word: x}
}
