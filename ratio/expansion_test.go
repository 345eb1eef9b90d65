package ratio_test

import (
	"math/big"
	"math/rand/v2"
	"slices"
	"testing"

	"torus/api"
	"torus/ratio"
)

// simpler reports whether x is simpler than y, by the definition.
func simpler(x, y *big.Rat) bool {
	if c := x.Denom().Cmp(y.Denom()); c != 0 {
		return c < 0
	}
	if c := x.Num().CmpAbs(y.Num()); c != 0 {
		return c < 0
	}
	return x.Sign() > y.Sign()
}

// P3.3, P3.8: all intervals with small ends, against all numbers that lie in them.
func TestSimplestSmall(t *testing.T) {
	var l []*big.Rat
	for d := int64(1); d <= 7; d++ {
		for n := -3 * d; n <= 3*d; n++ {
			if gcd(max(n, -n), d) == 1 {
				l = append(l, big.NewRat(n, d))
			}
		}
	}
	slices.SortFunc(l, (*big.Rat).Cmp)
	for i, x := range l {
		best := x // the simplest one so far: all numbers with a denominator of up to 7 are in l
		for _, y := range l[i:] {
			if simpler(y, best) {
				best = y
			}
			got, e := ratio.Simplest(text(x), text(y))
			is(t, "Simplest("+x.RatString()+", "+y.RatString()+")", got, e, text(best), api.OK)
		}
		ceiling := new(big.Int).Neg(new(big.Int).Div(new(big.Int).Neg(x.Num()), x.Denom()))
		want := new(big.Rat).SetInt(ceiling)
		if x.Sign() <= 0 {
			want = new(big.Rat)
		}
		got, e := ratio.Simplest(text(x), api.Inf)
		is(t, "Simplest("+x.RatString()+", inf)", got, e, text(want), api.OK)
	}
}

// neighbours returns the two numbers between which all others have a greater
// denominator and a greater numerator than the positive x; the greater one may be inf,
// which is nil.
func neighbours(x *big.Rat) (low, high *big.Rat) {
	p, q := x.Num(), x.Denom()
	d := big.NewInt(1)
	if q.Cmp(d) > 0 {
		d.ModInverse(p, q)
	}
	n := new(big.Int).Mul(p, d) // n/d is the lesser one: p d - n q = 1
	n.Sub(n, big.NewInt(1)).Div(n, q)
	low = new(big.Rat).SetFrac(n, d)
	if rest := new(big.Int).Sub(q, d); rest.Sign() > 0 {
		high = new(big.Rat).SetFrac(new(big.Int).Sub(p, n), rest)
	}
	return low, high
}

// checkSimplest checks Simplest for x and y, which are not negative (y may be nil for
// inf), and for the interval in the other direction.
func checkSimplest(t *testing.T, x, y *big.Rat) {
	t.Helper()
	a, b := text(x), api.Inf
	if y != nil {
		b = text(y)
	}
	got, e := ratio.Simplest(a, b)
	if e != api.OK || !ratio.Valid(got) {
		t.Fatalf("Simplest(%s, %s) = %s, error %d", short(a), short(b), short(got), e)
	}
	z := number(got)
	if z.Cmp(x) < 0 || y != nil && z.Cmp(y) > 0 {
		t.Fatalf("Simplest(%s, %s) = %s, which does not lie between", short(a), short(b), short(got))
	}
	if x.Sign() == 0 {
		is(t, "Simplest(0, "+short(b)+")", got, e, "0", api.OK)
	} else if low, high := neighbours(z); low.Cmp(x) >= 0 || high != nil && (y == nil || high.Cmp(y) <= 0) {
		t.Errorf("Simplest(%s, %s) = %s, but a simpler number lies between", short(a), short(b), short(got))
	}
	if y != nil {
		other, e := ratio.Simplest(ratio.Neg(b), ratio.Neg(a))
		is(t, "Simplest of the negatives", other, e, ratio.Neg(got), api.OK)
	}
}

// P3.3, P3.8: intervals of numbers of all lengths, narrow and wide, on either side of 0.
func TestSimplest(t *testing.T) {
	r := rand.New(rand.NewPCG(11, 12))
	for n := 1; n <= 900; n += 1 + n/12 {
		for range 6 {
			x := new(big.Rat).SetFrac(random(r, n), random(r, 1+r.IntN(n)))
			checkSimplest(t, x, x)
			checkSimplest(t, x, nil)
			width := new(big.Rat).SetFrac(big.NewInt(1+r.Int64N(9)), random(r, 1+r.IntN(n)))
			if y := new(big.Rat).Add(x, width); fits(y) {
				checkSimplest(t, x, y)
			}
			y := new(big.Rat).SetFrac(random(r, n), random(r, n))
			if x.Cmp(y) > 0 {
				x, y = y, x
			}
			checkSimplest(t, x, y)
			checkSimplest(t, new(big.Rat), y)
			got, e := ratio.Simplest(ratio.Neg(text(x)), text(y)) // 0 lies between
			is(t, "Simplest around 0", got, e, "0", api.OK)
		}
	}
	checkSimplest(t, new(big.Rat), nil)
	for _, b := range []api.Rat{"0", api.Inf} {
		got, e := ratio.Simplest("-1/2", b)
		is(t, "Simplest(-1/2, "+string(b)+")", got, e, "0", api.OK)
	}
}

// P3.3: numbers with the longest parts, and intervals of which they are the ends.
func TestSimplestLong(t *testing.T) {
	top := number(api.Rat(nines))
	near := number(api.Rat(nines[1:] + "8/" + nines))
	tiny := number(api.Rat("1/" + nines))
	one := big.NewRat(1, 1)
	for _, c := range [][2]*big.Rat{{tiny, tiny}, {tiny, near}, {tiny, number(api.Rat("1/" + nines[1:] + "8"))}, {tiny, top}, {near, near}, {near, one}, {near, top}, {one, top}, {top, top}, {top, nil}, {near, nil}, {tiny, nil},
		{number(api.Rat(nines + "/2")), nil}, {number(api.Rat(nines + "/2")), top}, {new(big.Rat).Sub(top, one), top}} {
		checkSimplest(t, c[0], c[1])
	}
	f, g := fibonacci()
	x := new(big.Rat).SetFrac(g, f) // the longest expansion
	checkSimplest(t, x, x)
	checkSimplest(t, new(big.Rat).SetFrac(f, g), new(big.Rat).SetFrac(f, g))
	if y := new(big.Rat).SetFrac(new(big.Int).Sub(g, f), f); x.Cmp(y) > 0 {
		checkSimplest(t, y, x)
	}
}

// fibonacci returns the two greatest successive Fibonacci numbers of at most MaxDigits digits.
func fibonacci() (f, g *big.Int) {
	f, g = big.NewInt(1), big.NewInt(1)
	for {
		next := new(big.Int).Add(f, g)
		if len(next.String()) > api.MaxDigits {
			return f, g
		}
		f, g = g, next
	}
}

// folded returns c(0) + 1/(c(1) + 1/(.. + 1/c(n))), from the last element to the first one.
func folded(l []api.Int) *big.Rat {
	n, d := big.NewInt(1), new(big.Int)
	for _, c := range slices.Backward(l) {
		n, d = d.Add(d, new(big.Int).Mul(number(api.Rat(c)).Num(), n)), n
	}
	return new(big.Rat).SetFrac(n, d)
}

// checkExpand checks Expand by the definition of an expansion, which determines it, and
// that Collapse undoes it.
func checkExpand(t *testing.T, x *big.Rat) {
	t.Helper()
	a := text(x)
	l, e := ratio.Expand(a)
	if e != api.OK || len(l) == 0 {
		t.Fatalf("Expand(%s) = %v, error %d", short(a), l, e)
	}
	for i, c := range l {
		least := int64(1)
		if i == len(l)-1 {
			least = 2
		}
		if !ratio.Valid(api.Rat(c)) || i > 0 && number(api.Rat(c)).Cmp(big.NewRat(least, 1)) < 0 {
			t.Errorf("Expand(%s) has the element %s at %d of %d", short(a), short(c), i, len(l))
		}
	}
	if y := folded(l); y.Cmp(x) != 0 {
		t.Errorf("Expand(%s) is the expansion of %s", short(a), short(text(y)))
	}
	got, e := ratio.Collapse(l)
	is(t, "Collapse of the expansion of "+short(a), got, e, a, api.OK)
}

// P3.4, P3.9: expansions of integers, fractions of both signs and long numbers.
func TestExpand(t *testing.T) {
	for _, x := range rationals() {
		checkExpand(t, x)
	}
	for d := int64(1); d <= 20; d++ {
		for n := -3 * d; n <= 3*d; n++ {
			checkExpand(t, big.NewRat(n, d))
		}
	}
	r := rand.New(rand.NewPCG(13, 14))
	for _, n := range []int{400, 999, 1000} {
		checkExpand(t, new(big.Rat).SetFrac(random(r, n), random(r, 1000)))
		checkExpand(t, new(big.Rat).SetFrac(new(big.Int).Neg(random(r, 1000)), random(r, n)))
	}
	f, g := fibonacci()
	checkExpand(t, new(big.Rat).SetFrac(f, g))
	checkExpand(t, new(big.Rat).SetFrac(new(big.Int).Neg(g), f))
	for _, a := range []api.Rat{api.Rat(nines), api.Rat("-" + nines), api.Rat("1/" + nines), api.Rat("-1/" + nines), api.Rat(nines + "/2"), api.Rat("-" + nines + "/" + ten(999)), api.Rat(nines[1:] + "8/" + nines)} {
		checkExpand(t, number(a))
	}
}

// checkCollapse checks Collapse.
func checkCollapse(t *testing.T, l ...api.Int) {
	t.Helper()
	got, e := ratio.Collapse(l)
	same(t, "Collapse of "+shorts(l), got, e, folded(l))
}

// P3.4: lists that need not be expansions, with a 1 at the end and any first element.
func TestCollapse(t *testing.T) {
	elements := []api.Int{"1", "2", "3", "1000000000", "999999999999999999", "12345678901234567890123"}
	for _, first := range []api.Int{"0", "1", "-1", "5", "-2", "-7", "-1000000000000000000", "98765432109876543210"} {
		checkCollapse(t, first)
		for _, b := range elements {
			checkCollapse(t, first, b)
			for _, c := range elements {
				checkCollapse(t, first, b, c)
				checkCollapse(t, first, b, c, "1")
				checkCollapse(t, first, "1", "1", b, "1", c)
			}
		}
	}
	r := rand.New(rand.NewPCG(15, 16))
	for range 300 {
		l := []api.Int{api.Int(new(big.Int).Sub(random(r, 3), big.NewInt(500)).String())}
		for range r.IntN(40) {
			l = append(l, api.Int(random(r, 1+r.IntN(3)).String()))
		}
		checkCollapse(t, l...)
	}
}

// P3.4, R7: results of MaxDigits digits, and of one digit more.
func TestCollapseLong(t *testing.T) {
	top, bottom := api.Int(nines), api.Int("-"+nines)
	for _, l := range [][]api.Int{{top}, {bottom}, {"0", top}, {"-1", top}, {"1", top}, {top, "1"}, {bottom, "1"}, {bottom, "2"}, {top, "2"}, {bottom, "1", "1"}, {"0", top, "1"}, {"0", "1", top}, {"0", "1", api.Int(nines[1:] + "8")},
		{bottom, top}, {top, top}, {"0", api.Int(ten(500)), api.Int(ten(499))}, {"0", api.Int(ten(500)), api.Int(ten(498))}, {"3", api.Int(ten(500)), api.Int(ten(500)), "7"}, {api.Int(ten(499)), api.Int(ten(499))}, {api.Int(ten(499)), api.Int(ten(500))}, {api.Int(ten(498)), api.Int(ten(500))}} {
		checkCollapse(t, l...)
	}
	ones := slices.Repeat([]api.Int{"1"}, 5000)
	for n := 4770; n < 4800; n++ { // the first ones fit, and the others do not
		checkCollapse(t, ones[:n]...)
		checkCollapse(t, append([]api.Int{"0"}, ones[:n]...)...)
	}
	_, e := ratio.Collapse(ones[:4770])
	_, f := ratio.Collapse(ones[:4799])
	if e != api.OK || f != api.ErrLong {
		t.Errorf("Collapse of 4770 and of 4799 ones: error %d, %d; want 0 and 3 (ErrLong)", e, f)
	}
}

// P3.4, R1: a list of a million elements is refused without computing their number.
func TestCollapseMany(t *testing.T) {
	l := slices.Repeat([]api.Int{"1", "123456789"}, 500000)
	got, e := ratio.Collapse(l)
	is(t, "Collapse of a million elements", got, e, "", api.ErrLong)
	l[len(l)-1] = "0"
	got, e = ratio.Collapse(l)
	is(t, "Collapse of a million elements with a 0 at the end", got, e, "", api.ErrArg)
}
