package ratio

import (
	"strings"

	"torus/api"
	"torus/integer"
)

// A written is a number as written, whose digits need not be those of a rational number.
type written struct {
	minus       bool
	mark        rune   // the period or the slash, or 0 if there is none
	front, back string // the digits before and after the mark
}

// read reads a number as written, and reports whether s is one.
func read(s string) (w written, ok bool) {
	start := 0
	for i, c := range s {
		switch {
		case c == '-' && i == 0:
			w.minus, start = true, 1
		case (c == '.' || c == '/') && w.mark == 0:
			w.mark, w.front, start = c, s[start:i], i+1
		case c < '0' || c > '9':
			return written{}, false
		}
	}
	if w.mark == 0 {
		w.front = s[start:]
		return w, w.front != ""
	}
	w.back = s[start:]
	return w, w.front != "" && w.back != ""
}

// value returns the number that w denotes.
func (w written) value() (rational, api.Errno) {
	if w.mark != '/' {
		// Without a period there are no digits behind it, and the power of 10 is 1.
		power := integer.Read("1"+strings.Repeat("0", len(w.back)), false)
		return quotient(integer.Read(w.front+w.back, w.minus), power), api.OK
	}
	den := integer.Read(w.back, false)
	if den.IsZero() {
		return rational{}, api.ErrZero
	}
	return quotient(integer.Read(w.front, w.minus), den), api.OK
}
