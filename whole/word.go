package whole

import "torus/api"

// Most integers are short, and machine words are several times faster than limbs.
// A word has at most wordDigits digits, so the sum of two words fits in an int64.
const wordDigits = 18

// word returns a as a machine word, and whether a is an integer with a text that is short enough.
func word(a api.Int) (int64, bool) {
	if len(a) > wordDigits {
		return 0, false
	}
	minus, digits, ok := split(a)
	n := int64(0)
	for i := range len(digits) {
		n = n*10 + int64(digits[i]-'0')
	}
	if minus {
		n = -n
	}
	return n, ok
}

// words returns a and b as machine words, and whether both are.
func words(a, b api.Int) (x, y int64, ok bool) {
	x, ok = word(a)
	if !ok {
		return 0, 0, false
	}
	y, ok = word(b)
	return x, y, ok
}

// floorMod returns the remainder of x and a y other than 0, which has the sign of y.
func floorMod(x, y int64) int64 {
	r := x % y
	if r != 0 && (r < 0) != (y < 0) {
		r += y
	}
	return r
}

// gcdWord returns the greatest common divisor of x and y.
func gcdWord(x, y int64) int64 {
	for y != 0 {
		x, y = y, x%y
	}
	return max(x, -x)
}
