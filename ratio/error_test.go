package ratio_test

import (
	"testing"

	"torus/api"
	"torus/ratio"
)

// notInts are texts that are no integers, rational numbers and inf among them.
var notInts = []api.Int{"", "-", "-0", "00", "007", "-01", "+1", "1/2", "-3/7", "4/2", "0/1", "1.0", " 1", "1 ", "x", "1x", "inf", "\xff", api.Int(ten(api.MaxDigits)), api.Int("-" + nines + "9"), api.Int("0" + nines)}

// The table of errors: ErrArg for texts that are no rational numbers, on either side,
// inf among them, ahead of ErrZero in Div and of ErrLong.
func TestErrArg(t *testing.T) {
	for _, bad := range append(notRats(), api.Inf) {
		for _, b := range []api.Rat{"0", "1", "-1/2", api.Rat(nines), bad, "2/4", api.Inf} {
			for _, op := range operations {
				x, e := op.got(bad, b)
				is(t, op.name+"("+short(bad)+", "+short(b)+")", x, e, "", api.ErrArg)
				x, e = op.got(b, bad)
				is(t, op.name+"("+short(b)+", "+short(bad)+")", x, e, "", api.ErrArg)
			}
			x, e := ratio.Div(bad, b)
			is(t, "Div("+short(bad)+", "+short(b)+")", x, e, "", api.ErrArg)
			x, e = ratio.Div(b, bad)
			is(t, "Div("+short(b)+", "+short(bad)+")", x, e, "", api.ErrArg)
		}
		n, e := ratio.Floor(bad)
		is(t, "Floor("+short(bad)+")", n, e, "", api.ErrArg)
		l, e := ratio.Expand(bad)
		if len(l) != 0 || e != api.ErrArg {
			t.Errorf("Expand(%s) = %v, error %d; want nothing, error 1", short(bad), l, e)
		}
	}
}

// The table of errors: in Sum an element that is not valid comes ahead of a sum that is
// too long, wherever it stands.
func TestErrArgSum(t *testing.T) {
	top := api.Rat(nines)
	for _, bad := range append(notRats(), api.Inf) {
		for _, l := range [][]api.Rat{{bad}, {bad, "1"}, {"1", bad}, {top, top, bad}, {bad, top, top}, {top, bad, "1"}, {"1/2", "-1/2", bad, "3"}} {
			x, e := ratio.Sum(l)
			is(t, "Sum of "+shorts(l), x, e, "", api.ErrArg)
		}
	}
}

// The table of errors: Make of texts that are no integers, ahead of ErrZero.
func TestErrArgMake(t *testing.T) {
	for _, bad := range notInts {
		for _, b := range []api.Int{"0", "1", "-7", api.Int(nines), bad} {
			x, e := ratio.Make(bad, b)
			is(t, "Make("+short(bad)+", "+short(b)+")", x, e, "", api.ErrArg)
			x, e = ratio.Make(b, bad)
			is(t, "Make("+short(b)+", "+short(bad)+")", x, e, "", api.ErrArg)
		}
	}
}

// The table of errors: Simplest of texts that are no ends, from inf, and of ends in the
// wrong order.
func TestErrArgSimplest(t *testing.T) {
	refuse := func(a, b api.Rat) {
		t.Helper()
		x, e := ratio.Simplest(a, b)
		is(t, "Simplest("+short(a)+", "+short(b)+")", x, e, "", api.ErrArg)
	}
	for _, bad := range notRats() {
		for _, b := range []api.Rat{"0", "-1/2", api.Inf, bad} {
			refuse(bad, b)
			refuse(b, bad)
		}
	}
	refuse(api.Inf, api.Inf)
	refuse(api.Inf, "1")
	for _, c := range [][2]api.Rat{{"1", "0"}, {"1/2", "1/3"}, {"-1", "-2"}, {"-1/3", "-1/2"}, {"1", "-1"}, {"0", "-1/1000"}, {"1/1000", "0"}, {"22/7", "355/113"},
		{api.Rat(nines), "1"}, {api.Rat("1/" + nines[1:] + "8"), api.Rat("1/" + nines)}, {api.Rat(nines), api.Rat("-" + nines)}} {
		refuse(c[0], c[1])
	}
}

// The table of errors: Collapse of nothing, of texts that are no integers, and of
// elements below 1 that are not the first one, ahead of ErrLong.
func TestErrArgCollapse(t *testing.T) {
	refuse := func(l ...api.Int) {
		t.Helper()
		x, e := ratio.Collapse(l)
		is(t, "Collapse of "+shorts(l), x, e, "", api.ErrArg)
	}
	top := api.Int(nines)
	refuse()
	for _, bad := range notInts {
		refuse(bad)
		refuse(bad, "1")
		refuse("1", bad)
		refuse(top, top, bad)
		refuse("0", "1", bad, "2")
		refuse(bad, "0")
	}
	for _, low := range []api.Int{"0", "-1", "-2", "-1000000000000000000", api.Int("-" + nines)} {
		refuse("1", low)
		refuse(low, low)
		refuse("1", "2", low)
		refuse("1", low, "2")
		refuse(top, top, top, low)
		x, e := ratio.Collapse([]api.Int{low, "2", "2"}) // at the first place it is allowed
		same(t, "Collapse of "+short(low)+", 2, 2", x, e, folded([]api.Int{low, "2", "2"}))
	}
}

// The table of errors: divisors 0, also ahead of results that would be too long.
func TestErrZero(t *testing.T) {
	for _, a := range []api.Rat{"0", "1", "-1/2", api.Rat(nines), api.Rat("-" + nines + "/2")} {
		x, e := ratio.Div(a, "0")
		is(t, "Div("+short(a)+", 0)", x, e, "", api.ErrZero)
	}
	for _, a := range []api.Int{"0", "1", "-1", "12345678901234567890", api.Int(nines)} {
		x, e := ratio.Make(a, "0")
		is(t, "Make("+short(a)+", 0)", x, e, "", api.ErrZero)
	}
}

// The table of errors: results that are too long above the line or below it (R7).
func TestErrLong(t *testing.T) {
	top, tiny := api.Rat(nines), api.Rat("1/"+nines)
	for _, c := range []struct {
		name string
		op   func(a, b api.Rat) (api.Rat, api.Errno)
		a, b api.Rat
	}{
		{"Add", ratio.Add, top, "1"}, {"Add", ratio.Add, "-1", "-" + top}, {"Add", ratio.Add, tiny, "1/2"}, {"Add", ratio.Add, top, "1/2"},
		{"Sub", ratio.Sub, "-" + top, "1"}, {"Sub", ratio.Sub, "1/10", tiny}, {"Sub", ratio.Sub, top, "-" + top},
		{"Mul", ratio.Mul, top, "2"}, {"Mul", ratio.Mul, tiny, "1/2"}, {"Mul", ratio.Mul, "-" + tiny, tiny}, {"Mul", ratio.Mul, api.Rat(ten(500)), api.Rat(ten(500))},
		{"Div", ratio.Div, top, "1/2"}, {"Div", ratio.Div, tiny, "-2"}, {"Div", ratio.Div, "2", tiny}, {"Div", ratio.Div, tiny, top},
		{"Mid", ratio.Mid, top, api.Rat(nines[1:] + "8")}, {"Mid", ratio.Mid, tiny, "0"}, {"Mid", ratio.Mid, tiny, "1/2"},
	} {
		x, e := c.op(c.a, c.b)
		is(t, c.name+"("+short(c.a)+", "+short(c.b)+")", x, e, "", api.ErrLong)
	}
}
