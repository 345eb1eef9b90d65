package whole

import (
	"strings"

	"torus/api"
	"torus/integer"
)

// split returns the sign and the digits of a, and whether a is an integer.
func split(a api.Int) (minus bool, digits string, ok bool) {
	digits, minus = strings.CutPrefix(string(a), "-")
	if len(digits) == 0 || len(digits) > api.MaxDigits {
		return false, "", false
	}
	if digits[0] == '0' && len(a) > 1 {
		return false, "", false // a leading zero, or -0
	}
	for i := range len(digits) {
		if digits[i] < '0' || digits[i] > '9' {
			return false, "", false
		}
	}
	return minus, digits, true
}

// parse returns the number with the text a, and whether a is an integer.
func parse(a api.Int) (integer.Number, bool) {
	minus, digits, ok := split(a)
	if !ok {
		return integer.Number{}, false
	}
	return integer.Read(digits, minus), true
}

// text returns x as an integer.
func text(x integer.Number) (api.Int, api.Errno) {
	if x.Digits() > api.MaxDigits {
		return "", api.ErrLong
	}
	return api.Int(x.Text()), api.OK
}
