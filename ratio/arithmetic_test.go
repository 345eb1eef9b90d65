package ratio_test

import (
	"math/big"
	"math/rand/v2"
	"strings"
	"testing"

	"torus/api"
	"torus/ratio"
)

// operations are the functions of two rational numbers, all but Div.
var operations = []struct {
	name string
	got  func(a, b api.Rat) (api.Rat, api.Errno)
	want func(x, y *big.Rat) *big.Rat
}{
	{"Add", ratio.Add, func(x, y *big.Rat) *big.Rat { return new(big.Rat).Add(x, y) }},
	{"Sub", ratio.Sub, func(x, y *big.Rat) *big.Rat { return new(big.Rat).Sub(x, y) }},
	{"Mul", ratio.Mul, func(x, y *big.Rat) *big.Rat { return new(big.Rat).Mul(x, y) }},
	{"Mid", ratio.Mid, func(x, y *big.Rat) *big.Rat {
		z := new(big.Rat).Add(x, y)
		return z.Mul(z, big.NewRat(1, 2))
	}},
}

// checkPair checks all functions of two rational numbers.
func checkPair(t *testing.T, x, y *big.Rat) {
	t.Helper()
	a, b := text(x), text(y)
	for _, op := range operations {
		got, e := op.got(a, b)
		same(t, op.name+"("+short(a)+", "+short(b)+")", got, e, op.want(x, y))
	}
	got, e := ratio.Div(a, b)
	if y.Sign() == 0 {
		is(t, "Div("+short(a)+", 0)", got, e, "", api.ErrZero)
		return
	}
	same(t, "Div("+short(a)+", "+short(b)+")", got, e, new(big.Rat).Quo(x, y))
}

// P3.2: sums, differences, products, quotients and middles of all pairs.
func TestPairs(t *testing.T) {
	l := rationals()
	for _, x := range l {
		for _, y := range l {
			checkPair(t, x, y)
		}
	}
}

// P3.2: pairs whose numerators and denominators have common divisors, also those that
// appear only in the sum.
func TestCommonDivisors(t *testing.T) {
	r := rand.New(rand.NewPCG(3, 4))
	for range 3000 {
		part := func() *big.Int {
			x := big.NewInt(1)
			for range r.IntN(4) {
				x.Mul(x, big.NewInt([]int64{2, 3, 4, 5, 6, 30, 1e9 + 7, 1e18, 999999999999999989}[r.IntN(9)]))
			}
			return x
		}
		x, y := new(big.Rat).SetFrac(part(), part()), new(big.Rat).SetFrac(part(), part())
		if r.IntN(2) == 0 {
			x.Neg(x)
		}
		if r.IntN(3) == 0 { // a sum with a small denominator
			y.Sub(big.NewRat(r.Int64N(9)-4, 1+r.Int64N(6)), x)
		}
		checkPair(t, x, y)
	}
}

// P3.2, R7: results of MaxDigits digits, and of one digit more, above and below the line.
func TestDigits(t *testing.T) {
	top, half := number(api.Rat(nines)), number(api.Rat(ten(500)))
	one := big.NewRat(1, 1)
	l := []*big.Rat{top, half, one, big.NewRat(1, 2), big.NewRat(2, 1), big.NewRat(10, 1), big.NewRat(1, 3), new(big.Rat).Inv(top), new(big.Rat).Inv(half),
		number(api.Rat(ten(499))), number(api.Rat(ten(999))), number(api.Rat("1/" + ten(999))), number(api.Rat("1/" + ten(499))), number(api.Rat(nines[:500])),
		new(big.Rat).Sub(top, one), number(api.Rat(nines[1:] + "8/" + nines)), number(api.Rat(nines + "/2")), number(api.Rat("2/" + nines)), number(api.Rat("7/" + nines[1:]))}
	for _, x := range l {
		for _, y := range l {
			checkPair(t, x, y)
			checkPair(t, new(big.Rat).Neg(x), y)
		}
	}
}

// P3.2, R7: results that fit although the sum, the products or the denominators on the way to them do not.
func TestLongOnTheWay(t *testing.T) {
	r := rand.New(rand.NewPCG(5, 6))
	for range 60 {
		p, q := random(r, 990), random(r, 990)
		x := new(big.Rat).SetFrac(p, q)
		k := new(big.Rat).SetFrac(big.NewInt(r.Int64N(1e6)+1), new(big.Int).Mul(q, big.NewInt(r.Int64N(1e6)+1)))
		checkPair(t, x, x)
		checkPair(t, x, new(big.Rat).Neg(x))
		checkPair(t, x, new(big.Rat).Inv(x))
		checkPair(t, k, new(big.Rat).Sub(big.NewRat(1, 7), k))
		checkPair(t, k, new(big.Rat).Sub(x, k))
		if y := new(big.Rat).Quo(big.NewRat(r.Int64N(1e6)+1, 77), x); fits(y) {
			checkPair(t, x, y)
			checkPair(t, x, new(big.Rat).Inv(y))
		}
	}
	top := api.Rat(nines)
	for _, c := range []struct {
		name string
		op   func(a, b api.Rat) (api.Rat, api.Errno)
		a, b api.Rat
		want api.Rat
	}{
		{"Mid", ratio.Mid, top, top, top},
		{"Mid", ratio.Mid, api.Rat("-" + nines), top, "0"},
		{"Mul", ratio.Mul, top, api.Rat("1/" + nines), "1"},
		{"Div", ratio.Div, api.Rat(nines + "/2"), api.Rat(nines + "/4"), "2"},
		{"Div", ratio.Div, api.Rat("1/" + nines), api.Rat("-1/" + nines), "-1"},
		{"Sub", ratio.Sub, api.Rat(nines + "/2"), api.Rat(nines[1:] + "7/2"), api.Rat(new(big.Rat).SetFrac(new(big.Int).Sub(number(top).Num(), number(api.Rat(nines[1:]+"7")).Num()), big.NewInt(2)).RatString())},
	} {
		got, e := c.op(c.a, c.b)
		is(t, c.name+"("+short(c.a)+", "+short(c.b)+")", got, e, c.want, api.OK)
	}
}

// P3.2: Neg and Abs.
func TestNegAbs(t *testing.T) {
	l := append(rationals(), number(api.Rat("-"+nines)), number(api.Rat("-"+nines+"/"+ten(999))), number(api.Rat("1/"+nines)))
	for _, x := range l {
		a := text(x)
		if n, w := ratio.Neg(a), text(new(big.Rat).Neg(x)); n != w {
			t.Errorf("Neg(%s) = %s", short(a), short(n))
		}
		if n, w := ratio.Abs(a), text(new(big.Rat).Abs(x)); n != w {
			t.Errorf("Abs(%s) = %s", short(a), short(n))
		}
	}
	for _, a := range append(notRats(), api.Inf) {
		if n, m := ratio.Neg(a), ratio.Abs(a); n != "" || m != "" {
			t.Errorf("Neg(%s) = %s, Abs = %s; want empty texts", short(a), short(n), short(m))
		}
	}
}

// P3.2: Make, with both signs above and below the line, and common divisors.
func TestMake(t *testing.T) {
	var l []*big.Int
	for _, x := range rationals()[:60] {
		l = append(l, x.Num(), new(big.Int).Mul(x.Num(), big.NewInt(-12)), new(big.Int).Neg(x.Denom()))
	}
	r := rand.New(rand.NewPCG(7, 8))
	for _, n := range []int{18, 19, 27, 300, 1000} {
		l = append(l, random(r, n), new(big.Int).Neg(random(r, n)))
	}
	l = append(l, number(api.Rat(nines)).Num(), number(api.Rat("-"+nines)).Num())
	for _, x := range l {
		for _, y := range l {
			a, b := api.Int(x.String()), api.Int(y.String())
			got, e := ratio.Make(a, b)
			if call := "Make(" + short(a) + ", " + short(b) + ")"; y.Sign() == 0 {
				is(t, call, got, e, "", api.ErrZero)
			} else {
				same(t, call, got, e, new(big.Rat).SetFrac(x, y))
			}
		}
	}
}

// P3.2: Floor.
func TestFloor(t *testing.T) {
	l := append(rationals(), number(api.Rat(nines)), number(api.Rat("-"+nines)), number(api.Rat("-"+nines+"/2")), number(api.Rat(nines+"/2")), number(api.Rat("-1/"+nines)), number(api.Rat("1/"+nines)))
	for _, x := range l {
		got, e := ratio.Floor(text(x))
		want := new(big.Int).Div(x.Num(), x.Denom()) // the denominator is positive, so this is the floor
		is(t, "Floor("+short(text(x))+")", got, e, api.Int(want.String()), api.OK)
	}
}

// checkSum checks Sum.
func checkSum(t *testing.T, l ...api.Rat) {
	t.Helper()
	want := new(big.Rat)
	for _, a := range l {
		want.Add(want, number(a))
	}
	got, e := ratio.Sum(l)
	same(t, "Sum of "+shorts(l), got, e, want)
}

// P3.2: Sum.
func TestSum(t *testing.T) {
	checkSum(t)
	if got, e := ratio.Sum([]api.Rat{}); got != "0" || e != api.OK {
		t.Errorf("Sum of nothing = %s, error %d; want 0", got, e)
	}
	var all []api.Rat
	for _, x := range rationals() {
		all = append(all, text(x))
		checkSum(t, text(x))
		checkSum(t, all[max(0, len(all)-5):]...)
	}
	checkSum(t, all...) // 0, as each number is followed by its negative
	checkSum(t, all[:len(all)-1]...)
	var harmonic []api.Rat
	for n := int64(1); n <= 700; n++ {
		harmonic = append(harmonic, text(big.NewRat(1, n)))
	}
	checkSum(t, harmonic...)
}

// P3.2, R7: only the whole sum must not be too long.
func TestSumLong(t *testing.T) {
	top, bottom := api.Rat(nines), api.Rat("-"+nines)
	checkSum(t, top, top, bottom)
	checkSum(t, top, "1", "-1")
	checkSum(t, bottom, bottom, top, "1/2", top)
	checkSum(t, top, "1")
	checkSum(t, "1/2", top)
	checkSum(t, api.Rat("1/"+nines), "1", api.Rat("-1/"+nines))
	checkSum(t, top, api.Rat("1/"+nines), bottom)
	r := rand.New(rand.NewPCG(9, 10))
	var l []api.Rat
	for range 12 { // denominators of twelve thousand digits on the way, and then 5/3
		x := new(big.Rat).SetFrac(random(r, 1000), random(r, 1000))
		l = append(l, text(x))
	}
	for _, a := range l[:12:12] {
		l = append(l, ratio.Neg(a))
	}
	checkSum(t, append(l, "5/3")...)
	checkSum(t, l[:13]...)
	checkSum(t, api.Rat(strings.Repeat("3", 1000)), api.Rat(strings.Repeat("6", 1000)))
	checkSum(t, api.Rat(strings.Repeat("3", 1000)), api.Rat(strings.Repeat("6", 999)+"7"))
}
