package whole_test

import (
	"math"
	"math/rand/v2"
	"testing"

	"torus/api"
	"torus/whole"
)

// must returns a result and fails the test if there is an error.
func must(t *testing.T) func(x api.Int, e api.Errno) api.Int {
	return func(x api.Int, e api.Errno) api.Int {
		t.Helper()
		if e != api.OK || !whole.Valid(x) {
			t.Fatalf("a result is %q, error %d; want an integer", short(x), e)
		}
		return x
	}
}

// triples calls check with triples of integers of all lengths up to n digits and both signs, 0 among them.
func triples(n int, check func(a, b, c api.Int)) {
	r := rand.New(rand.NewPCG(11, 12))
	pick := func() api.Int {
		switch r.IntN(6) {
		case 0:
			return whole.Of(int64(r.IntN(5) - 2))
		case 1:
			return text(patterned(r, 1+r.IntN(n/9)))
		case 2:
			return whole.Neg(text(random(r, 1+r.IntN(n))))
		case 3:
			return text(random(r, 1+r.IntN(min(n, 20))))
		}
		return text(random(r, 1+r.IntN(n)))
	}
	for range 1500 {
		check(pick(), pick(), pick())
	}
}

// equal checks two sides of an equation.
func equal(t *testing.T, what string, x, y api.Int) {
	t.Helper()
	if x != y {
		t.Errorf("%s: %q is not %q", what, short(x), short(y))
	}
}

// P2.5 (ring).
func TestRing(t *testing.T) {
	ok := must(t)
	add := func(a, b api.Int) api.Int { return ok(whole.Add(a, b)) }
	mul := func(a, b api.Int) api.Int { return ok(whole.Mul(a, b)) }
	triples(330, func(a, b, c api.Int) {
		equal(t, "a + b, b + a", add(a, b), add(b, a))
		equal(t, "a b, b a", mul(a, b), mul(b, a))
		equal(t, "(a + b) + c, a + (b + c)", add(add(a, b), c), add(a, add(b, c)))
		equal(t, "(a b) c, a (b c)", mul(mul(a, b), c), mul(a, mul(b, c)))
		equal(t, "a (b + c), a b + a c", mul(a, add(b, c)), add(mul(a, b), mul(a, c)))
		equal(t, "a + 0, a", add(a, "0"), a)
		equal(t, "a 1, a", mul(a, "1"), a)
		equal(t, "a 0, 0", mul(a, "0"), "0")
		equal(t, "a - b, a + -b", ok(whole.Sub(a, b)), add(a, whole.Neg(b)))
		equal(t, "a - a, 0", ok(whole.Sub(a, a)), "0")
		equal(t, "(a + b) - b, a", ok(whole.Sub(add(a, b), b)), a)
		equal(t, "-(-a), a", whole.Neg(whole.Neg(a)), a)
		equal(t, "-1 a, -a", mul("-1", a), whole.Neg(a))
		equal(t, "the sum of a, b and c", ok(whole.Sum([]api.Int{a, b, c})), add(add(a, b), c))
	})
}

// P2.6 (division).
func TestDivision(t *testing.T) {
	ok := must(t)
	triples(990, func(a, b, _ api.Int) {
		if b == "0" {
			return
		}
		q, r, e := whole.DivMod(a, b)
		if e != api.OK || !whole.Valid(q) || !whole.Valid(r) {
			t.Fatalf("DivMod(%q, %q) = %q, %q, error %d", short(a), short(b), short(q), short(r), e)
		}
		product := ok(whole.Mul(q, b))
		equal(t, "q b + r, a", ok(whole.Add(product, r)), a)
		if r != "0" && whole.Sign(r) != whole.Sign(b) {
			t.Errorf("DivMod(%q, %q) has the remainder %q with the wrong sign", short(a), short(b), short(r))
		}
		if whole.Cmp(whole.Abs(r), whole.Abs(b)) >= 0 {
			t.Errorf("DivMod(%q, %q) has the remainder %q, which is too great", short(a), short(b), short(r))
		}
	})
}

// divides reports whether d divides a; 0 divides only 0.
func divides(d, a api.Int) bool {
	if d == "0" {
		return a == "0"
	}
	_, r, e := whole.DivMod(a, d)
	return e == api.OK && r == "0"
}

// P2.7 (divisors).
func TestDivisors(t *testing.T) {
	ok := must(t)
	triples(240, func(a, b, c api.Int) {
		a, b = ok(whole.Mul(a, c)), ok(whole.Mul(b, c)) // so c is a common divisor
		g := ok(whole.Gcd(a, b))
		if !divides(g, a) || !divides(g, b) || whole.Sign(g) < 0 {
			t.Errorf("Gcd(%q, %q) = %q, which is no divisor of both", short(a), short(b), short(g))
		}
		if !divides(c, g) {
			t.Errorf("Gcd(%q, %q) = %q, which the common divisor %q does not divide", short(a), short(b), short(g), short(c))
		}
		equal(t, "the divisors of a, b and of b, a", g, ok(whole.Gcd(b, a)))
		h, x, y, e := whole.Bezout(a, b)
		equal(t, "the divisors of Bezout and of Gcd", ok(h, e), g)
		equal(t, "a x + b y, g", ok(whole.Add(ok(whole.Mul(a, x)), ok(whole.Mul(b, y)))), g)
	})
}

// P2.8 (order).
func TestOrder(t *testing.T) {
	ok := must(t)
	triples(990, func(a, b, c api.Int) {
		ab, bc, ac := whole.Cmp(a, b), whole.Cmp(b, c), whole.Cmp(a, c)
		if ab != -whole.Cmp(b, a) || (ab == 0) != (a == b) || whole.Cmp(a, a) != 0 {
			t.Errorf("Cmp(%q, %q) = %d, the other way %d", short(a), short(b), ab, whole.Cmp(b, a))
		}
		if ab == bc && ac != ab {
			t.Errorf("Cmp is not transitive for %q, %q, %q", short(a), short(b), short(c))
		}
		if got := whole.Cmp(ok(whole.Add(a, c)), ok(whole.Add(b, c))); got != ab {
			t.Errorf("Cmp(%q, %q) = %d, but %d when %q is added", short(a), short(b), ab, got, short(c))
		}
		if got := whole.Sign(ok(whole.Sub(a, b))); got != ab {
			t.Errorf("Cmp(%q, %q) = %d, but the difference has the sign %d", short(a), short(b), ab, got)
		}
	})
}

// P2.9 (powers, roots).
func TestPowersRoots(t *testing.T) {
	ok := must(t)
	triples(480, func(a, _, _ api.Int) {
		square := ok(whole.Mul(a, a))
		equal(t, "the root of a square", ok(whole.Root(square)), whole.Abs(a))
		equal(t, "a^2, a a", ok(whole.Pow(a, 2)), square)
		equal(t, "a^0, 1", ok(whole.Pow(a, 0)), "1")
		equal(t, "a^1, a", ok(whole.Pow(a, 1)), a)
	})
	triples(60, func(a, _, _ api.Int) {
		for m := range 6 {
			for n := range 6 {
				equal(t, "a^(m + n), a^m a^n", ok(whole.Pow(a, m+n)), ok(whole.Mul(ok(whole.Pow(a, m)), ok(whole.Pow(a, n)))))
			}
		}
	})
	for _, m := range []int{0, 1, 2, 1 << 40, math.MaxInt / 2} {
		for _, a := range []api.Int{"0", "1", "-1"} {
			equal(t, "a^(m + 3), a^m a^3", ok(whole.Pow(a, m+3)), ok(whole.Mul(ok(whole.Pow(a, m)), ok(whole.Pow(a, 3)))))
		}
	}
}

// P2.3, P2.9: the integer root is the greatest integer whose square is at most a.
func TestRootBounds(t *testing.T) {
	ok := must(t)
	triples(990, func(a, _, _ api.Int) {
		a = whole.Abs(a)
		x := ok(whole.Root(a))
		next := ok(whole.Add(x, "1"))
		if whole.Cmp(ok(whole.Mul(x, x)), a) > 0 || whole.Cmp(ok(whole.Mul(next, next)), a) <= 0 {
			t.Errorf("Root(%q) = %q, which is not the integer root", short(a), short(x))
		}
	})
}

// R4: equal arguments yield equal results.
func TestRepeated(t *testing.T) {
	triples(990, func(a, b, _ api.Int) {
		for _, op := range operations {
			x, e := op.got(a, b)
			y, f := op.got(a, b)
			if x != y || e != f {
				t.Errorf("%s(%q, %q) = %q and %q", op.name, short(a), short(b), short(x), short(y))
			}
		}
	})
}
