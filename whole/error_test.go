package whole_test

import (
	"math"
	"slices"
	"testing"

	"torus/api"
	"torus/whole"
)

// refused checks that a call returned the error and otherwise only empty texts (R1).
func refused(t *testing.T, call string, a, b api.Int, want, e api.Errno, results ...api.Int) {
	t.Helper()
	empty := !slices.ContainsFunc(results, func(x api.Int) bool { return x != "" })
	if e != want || !empty {
		t.Errorf("%s(%q, %q) = %.60q, error %d; want empty texts, error %d", call, short(a), short(b), results, e, want)
	}
}

// checkPairErrArg checks all functions of two integers for a pair of which one is not valid.
func checkPairErrArg(t *testing.T, a, b api.Int) {
	t.Helper()
	for _, op := range operations {
		x, e := op.got(a, b)
		refused(t, op.name, a, b, api.ErrArg, e, x)
	}
	q, r, e := whole.DivMod(a, b)
	refused(t, "DivMod", a, b, api.ErrArg, e, q, r)
	g, x, y, e := whole.Bezout(a, b)
	refused(t, "Bezout", a, b, api.ErrArg, e, g, x, y)
}

// The table of errors: ErrArg for texts that are no integers, on either side, ahead of
// ErrZero in DivMod and of ErrLong.
func TestErrArg(t *testing.T) {
	for _, bad := range notInts() {
		for _, b := range []api.Int{"0", "1", "-12345678901234567890", nines, "-" + nines, bad, "007"} {
			checkPairErrArg(t, bad, b)
			checkPairErrArg(t, b, bad)
		}
		for _, n := range []int{0, 1, 2, -1, 1001, math.MaxInt, math.MinInt} {
			x, e := whole.Pow(bad, n)
			refused(t, "Pow", bad, whole.Of(int64(n)), api.ErrArg, e, x)
		}
		x, e := whole.Root(bad)
		refused(t, "Root", bad, "", api.ErrArg, e, x)
	}
}

// The table of errors: negative exponents, also of 0, 1 and long integers, and negative radicands.
func TestErrArgNegative(t *testing.T) {
	for _, a := range []api.Int{"0", "1", "-1", "2", "-2", "10", nines, "-" + nines} {
		for _, n := range []int{-1, -2, -3, -1000, math.MinInt32, math.MinInt + 1, math.MinInt} {
			x, e := whole.Pow(a, n)
			refused(t, "Pow", a, whole.Of(int64(n)), api.ErrArg, e, x)
		}
	}
	for _, a := range []api.Int{"-1", "-2", "-4", "-9223372036854775808", "-" + nines, "-" + ten(500)} {
		x, e := whole.Root(a)
		refused(t, "Root", a, "", api.ErrArg, e, x)
	}
}

// The table of errors: in Sum an element that is not valid comes ahead of a sum that is too long, wherever it stands.
func TestErrArgSum(t *testing.T) {
	for _, bad := range notInts() {
		for _, l := range [][]api.Int{{bad}, {bad, "1"}, {"1", bad}, {nines, nines, bad}, {bad, nines, nines}, {nines, bad, nines}, {bad, bad}, {"1", "2", bad, "4"}} {
			x, e := whole.Sum(l)
			refused(t, "Sum with", bad, whole.Of(int64(len(l))), api.ErrArg, e, x)
		}
	}
}

// The table of errors: division by zero.
func TestErrZero(t *testing.T) {
	for _, a := range []api.Int{"0", "1", "-1", "7", "-123456789012345678", "12345678901234567890", nines, "-" + nines} {
		q, r, e := whole.DivMod(a, "0")
		refused(t, "DivMod", a, "0", api.ErrZero, e, q, r)
	}
}

// The table of errors: results that are too long; one digit less is no error (R7).
func TestErrLong(t *testing.T) {
	top, bottom := nines, "-"+nines
	for _, c := range []struct {
		name string
		op   func(a, b api.Int) (api.Int, api.Errno)
		a, b api.Int
	}{
		{"Add", whole.Add, top, "1"}, {"Add", whole.Add, "1", top}, {"Add", whole.Add, bottom, "-1"}, {"Add", whole.Add, top, top}, {"Add", whole.Add, bottom, bottom},
		{"Sub", whole.Sub, top, "-1"}, {"Sub", whole.Sub, "-1", top}, {"Sub", whole.Sub, bottom, "1"}, {"Sub", whole.Sub, top, bottom}, {"Sub", whole.Sub, bottom, top},
		{"Mul", whole.Mul, top, "2"}, {"Mul", whole.Mul, "-2", top}, {"Mul", whole.Mul, bottom, bottom}, {"Mul", whole.Mul, ten(500), ten(500)}, {"Mul", whole.Mul, "10", ten(999)},
	} {
		x, e := c.op(c.a, c.b)
		refused(t, c.name, c.a, c.b, api.ErrLong, e, x)
	}
	for _, c := range []struct {
		a api.Int
		n int
	}{{"10", 1000}, {"-10", 1000}, {"-10", 1001}, {"2", 3322}, {"-2", 3322}, {top, 2}, {bottom, 2}, {bottom, 3}, {"2", math.MaxInt}, {"-2", math.MaxInt}, {bottom, math.MaxInt}, {ten(500), 2}} {
		x, e := whole.Pow(c.a, c.n)
		refused(t, "Pow", c.a, whole.Of(int64(c.n)), api.ErrLong, e, x)
	}
	for _, l := range [][]api.Int{{top, "1"}, {bottom, "-1"}, {"1", top}, {top, bottom, top, "1"}, {top, top}, {bottom, bottom, "1"}} {
		x, e := whole.Sum(l)
		refused(t, "Sum of", l[0], l[1], api.ErrLong, e, x)
	}
}

// The table of errors: functions without ErrLong, and DivMod, give results for the longest integers.
func TestNoErrLong(t *testing.T) {
	for _, a := range []api.Int{nines, "-" + nines} {
		for _, b := range []api.Int{"1", "-1", "2", "-2", nines, "-" + nines, nines[1:]} {
			checkDivMod(t, number(a), number(b))
			checkDivMod(t, number(b), number(a))
			checkBezout(t, a, b)
			checkBezout(t, b, a)
		}
		checkBezout(t, a, "0")
		checkBezout(t, "0", a)
	}
	x, e := whole.Root(nines)
	if x != nines[:500] || e != api.OK {
		t.Errorf("Root of 1000 nines = %q, error %d; want 500 nines", short(x), e)
	}
}
