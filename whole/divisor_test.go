package whole_test

import (
	"math/big"
	"math/rand/v2"
	"testing"

	"torus/api"
	"torus/whole"
)

// checkBezout checks the result of Bezout by P2.4, which determines it.
func checkBezout(t *testing.T, a, b api.Int) {
	t.Helper()
	gt, xt, yt, e := whole.Bezout(a, b)
	if e != api.OK || !whole.Valid(gt) || !whole.Valid(xt) || !whole.Valid(yt) {
		t.Errorf("Bezout(%q, %q) = %q, %q, %q, error %d; want three integers", short(a), short(b), short(gt), short(xt), short(yt), e)
		return
	}
	m, n, g, x, y := number(a), number(b), number(gt), number(xt), number(yt)
	if want := new(big.Int).GCD(nil, nil, new(big.Int).Abs(m), new(big.Int).Abs(n)); g.Cmp(want) != 0 {
		t.Errorf("Bezout(%q, %q) has the divisor %q; want %q", short(a), short(b), short(gt), short(text(want)))
		return
	}
	sum := new(big.Int).Add(new(big.Int).Mul(m, x), new(big.Int).Mul(n, y))
	if sum.Cmp(g) != 0 {
		t.Errorf("Bezout(%q, %q) = %q, %q, %q: a x + b y is not g", short(a), short(b), short(gt), short(xt), short(yt))
	}
	if n.Sign() == 0 {
		if xt != whole.Of(int64(m.Sign())) || yt != "0" {
			t.Errorf("Bezout(%q, 0) has the factors %q, %q; want the sign and 0", short(a), short(xt), short(yt))
		}
		return
	}
	end := new(big.Int).Div(new(big.Int).Abs(n), g)
	if x.Sign() < 0 || x.Cmp(end) >= 0 {
		t.Errorf("Bezout(%q, %q) has x = %q; want less than %q, from 0 on", short(a), short(b), short(xt), short(text(end)))
	}
}

// P2.4: all small pairs, with all signs and zeros.
func TestBezoutSmall(t *testing.T) {
	for a := int64(-90); a <= 90; a++ {
		for b := int64(-90); b <= 90; b++ {
			checkBezout(t, whole.Of(a), whole.Of(b))
		}
	}
}

// P2.4: all pairs of longer integers, and at the limit of digits, where no result is too long.
func TestBezout(t *testing.T) {
	l := append(integers(), number(nines), number("-"+nines), number("-"+nines[1:]), number(ten(api.MaxDigits-1)), number(nines[1:]+"8"))
	for i, x := range l {
		for j := i % 3; j < len(l); j += 3 {
			checkBezout(t, text(x), text(l[j]))
		}
	}
}

// P2.3, P2.4: pairs with a known common divisor, of the lengths that are given.
func TestCommonDivisors(t *testing.T) {
	r := rand.New(rand.NewPCG(5, 6))
	for _, n := range [][3]int{{1, 5, 9}, {5, 9, 9}, {10, 10, 10}, {18, 1, 1}, {18, 18, 19}, {30, 60, 61}, {100, 9, 400}, {300, 300, 300}, {500, 500, 500}, {990, 10, 10}, {1, 999, 999}, {20, 900, 80}} {
		for range 12 {
			g, x, y := random(r, n[0]), random(r, n[1]), random(r, n[2])
			x.Div(x, new(big.Int).GCD(nil, nil, x, y)) // x and y may keep a common divisor, which Gcd finds
			a, b := new(big.Int).Mul(g, x), new(big.Int).Mul(g, y)
			if len(text(a)) > api.MaxDigits || len(text(b)) > api.MaxDigits {
				continue
			}
			got, e := whole.Gcd(text(a), text(b))
			same(t, "Gcd", text(a), text(b), got, e, new(big.Int).GCD(nil, nil, a, b))
			checkBezout(t, text(a), text(b))
			checkBezout(t, text(new(big.Int).Neg(b)), text(a))
		}
	}
}

// P2.3, P2.4: successive Fibonacci numbers, whose quotients are all 1, and pairs near
// to them, for which a machine word's worth of digits leads as far as it can.
func TestFibonacci(t *testing.T) {
	x, y := big.NewInt(1), big.NewInt(1)
	for i := 0; len(text(y)) <= api.MaxDigits; i++ {
		if i < 200 || i%97 == 0 {
			for d := int64(-2); d <= 2; d++ {
				a, b := text(x), text(new(big.Int).Add(y, big.NewInt(d)))
				if len(b) > api.MaxDigits {
					continue
				}
				checkBezout(t, a, b)
				got, e := whole.Gcd(b, a)
				same(t, "Gcd", b, a, got, e, new(big.Int).GCD(nil, nil, number(b), x))
			}
		}
		x, y = y, new(big.Int).Add(x, y)
	}
}

// P2.4: pairs for which factors of the algorithm grow by more than nine digits at once.
func TestBezoutGrowth(t *testing.T) {
	const (
		a = "999999998499999999000000000499999999499999999999999999500000000000000001000000000499999999718711811000000002499999999"
		b = "1499999999146891296999999999560620954000000000500000000000000000663359605000000000999999999000000002999999999633762542000000002499999999999999998000000000908488747"
	)
	for _, p := range [][2]api.Int{{a, b}, {b, a}, {"-" + a, b}, {a, "-" + b}, {b, "-" + a}, {"-" + b, "-" + a}} {
		checkBezout(t, p[0], p[1])
	}
}

// patterned returns an integer of n groups of nine digits that are mostly 0, 1 or all 9:
// carries, borrows and quotients that are hard to estimate are frequent with them.
func patterned(r *rand.Rand, n int) *big.Int {
	x := new(big.Int)
	groups := []int64{0, 0, 1, 2, 499999999, 500000000, 999999998, 999999999, 999999999}
	for range n {
		group := r.Int64N(1e9)
		if k := r.IntN(len(groups) + 2); k < len(groups) {
			group = groups[k]
		}
		x.Mul(x, big.NewInt(1e9))
		x.Add(x, big.NewInt(group))
	}
	if r.IntN(2) == 0 {
		x.Neg(x)
	}
	return x
}

// P2.2, P2.3, P2.4: every operation on patterned integers.
func TestPatterned(t *testing.T) {
	r := rand.New(rand.NewPCG(7, 8))
	for range 6000 {
		x, y := patterned(r, 1+r.IntN(9)), patterned(r, 1+r.IntN(5))
		switch r.IntN(8) {
		case 0: // a remainder that is as great or as small as it can be
			x.Mul(x, y).Add(x, big.NewInt(int64(r.IntN(3)-1)))
		case 1: // numbers that begin alike
			x.Add(y, big.NewInt(int64(r.IntN(2000)-1000)))
		case 2:
			x.Set(y)
		}
		a, b := text(x), text(y)
		for _, op := range operations {
			got, e := op.got(a, b)
			same(t, op.name, a, b, got, e, op.want(new(big.Int), x, y))
		}
		checkDivMod(t, x, y)
		checkBezout(t, a, b)
		if got := whole.Cmp(a, b); got != x.Cmp(y) {
			t.Errorf("Cmp(%q, %q) = %d; want %d", a, b, got, x.Cmp(y))
		}
	}
}

// P2.3: divisions of random integers of all lengths.
func TestDivModLengths(t *testing.T) {
	r := rand.New(rand.NewPCG(9, 10))
	for n := 1; n <= api.MaxDigits; n += 1 + n/10 {
		for m := 1; m <= n+2 && m <= api.MaxDigits; m += 1 + m/7 {
			x, y := random(r, n), random(r, m)
			checkDivMod(t, x, y)
			checkDivMod(t, x, new(big.Int).Neg(y))
		}
	}
}
