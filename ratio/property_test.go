package ratio_test

import (
	"math/big"
	"math/rand/v2"
	"testing"

	"torus/api"
	"torus/ratio"
)

// triples calls check with triples of rational numbers of both signs, whose parts have
// up to n digits, 0 and integers among them.
func triples(n int, check func(a, b, c api.Rat)) {
	r := rand.New(rand.NewPCG(23, 24))
	pick := func() api.Rat {
		x := new(big.Rat)
		switch r.IntN(6) {
		case 0:
			x.SetInt64(r.Int64N(5) - 2)
		case 1:
			x.SetFrac64(r.Int64N(41)-20, 1+r.Int64N(12))
		case 2:
			x.SetInt(random(r, 1+r.IntN(n)))
		case 3:
			x.SetFrac(random(r, 1+r.IntN(min(n, 20))), random(r, 1+r.IntN(min(n, 20))))
		default:
			x.SetFrac(random(r, 1+r.IntN(n)), random(r, 1+r.IntN(n)))
		}
		if r.IntN(2) == 0 {
			x.Neg(x)
		}
		return text(x)
	}
	for range 600 {
		check(pick(), pick(), pick())
	}
}

// must returns a result and fails the test if there is an error.
func must(t *testing.T) func(x api.Rat, e api.Errno) api.Rat {
	return func(x api.Rat, e api.Errno) api.Rat {
		t.Helper()
		if e != api.OK || !ratio.Valid(x) {
			t.Fatalf("a result is %s, error %d; want a rational number", short(x), e)
		}
		return x
	}
}

// equal checks two sides of an equation.
func equal(t *testing.T, what string, x, y api.Rat) {
	t.Helper()
	if x != y {
		t.Errorf("%s: %s is not %s", what, short(x), short(y))
	}
}

// P3.6 (field).
func TestField(t *testing.T) {
	ok := must(t)
	add := func(a, b api.Rat) api.Rat { return ok(ratio.Add(a, b)) }
	sub := func(a, b api.Rat) api.Rat { return ok(ratio.Sub(a, b)) }
	mul := func(a, b api.Rat) api.Rat { return ok(ratio.Mul(a, b)) }
	div := func(a, b api.Rat) api.Rat { return ok(ratio.Div(a, b)) }
	triples(160, func(a, b, c api.Rat) {
		equal(t, "a + b, b + a", add(a, b), add(b, a))
		equal(t, "a b, b a", mul(a, b), mul(b, a))
		equal(t, "(a + b) + c, a + (b + c)", add(add(a, b), c), add(a, add(b, c)))
		equal(t, "(a b) c, a (b c)", mul(mul(a, b), c), mul(a, mul(b, c)))
		equal(t, "a (b + c), a b + a c", mul(a, add(b, c)), add(mul(a, b), mul(a, c)))
		equal(t, "(a + b) - b, a", sub(add(a, b), b), a)
		equal(t, "(a - b) + b, a", add(sub(a, b), b), a)
		equal(t, "a + 0, a", add(a, "0"), a)
		equal(t, "a 1, a", mul(a, "1"), a)
		equal(t, "a 0, 0", mul(a, "0"), "0")
		equal(t, "a - a, 0", sub(a, a), "0")
		equal(t, "-(-a), a", ratio.Neg(ratio.Neg(a)), a)
		equal(t, "a - b, a + -b", sub(a, b), add(a, ratio.Neg(b)))
		equal(t, "the sum of a, b and c", ok(ratio.Sum([]api.Rat{a, b, c})), add(add(a, b), c))
		equal(t, "num / den", ok(ratio.Make(ratio.Num(a), ratio.Den(a))), a)
		if b != "0" {
			equal(t, "(a b) / b, a", div(mul(a, b), b), a)
			equal(t, "(a / b) b, a", mul(div(a, b), b), a)
			equal(t, "b / b, 1", div(b, b), "1")
		}
	})
}

// P3.6, R7: with numbers near to the limit each side is too long, or the equation holds.
func TestFieldLong(t *testing.T) {
	triples(1000, func(a, b, _ api.Rat) {
		for _, op := range []struct {
			do, undo func(a, b api.Rat) (api.Rat, api.Errno)
		}{{ratio.Add, ratio.Sub}, {ratio.Sub, ratio.Add}, {ratio.Mul, ratio.Div}, {ratio.Div, ratio.Mul}} {
			x, e := op.do(a, b)
			if e != api.OK {
				continue
			}
			if y, e := op.undo(x, b); b != "0" && (y != a || e != api.OK) {
				t.Errorf("%s and %s give %s, error %d, which is undone to %s", short(a), short(b), short(x), e, short(y))
			}
		}
	})
}

// P3.7 (order).
func TestOrder(t *testing.T) {
	ok := must(t)
	triples(300, func(a, b, c api.Rat) {
		ab, bc, ac := ratio.Cmp(a, b), ratio.Cmp(b, c), ratio.Cmp(a, c)
		if ab != -ratio.Cmp(b, a) || (ab == 0) != (a == b) || ratio.Cmp(a, a) != 0 {
			t.Errorf("Cmp(%s, %s) = %d, the other way %d", short(a), short(b), ab, ratio.Cmp(b, a))
		}
		if ab == bc && ac != ab {
			t.Errorf("Cmp is not transitive for %s, %s, %s", short(a), short(b), short(c))
		}
		if ratio.Cmp(a, api.Inf) != -1 || ratio.Cmp(api.Inf, a) != 1 {
			t.Errorf("%s is not less than inf", short(a))
		}
		if got := ratio.Cmp(ok(ratio.Add(a, c)), ok(ratio.Add(b, c))); got != ab {
			t.Errorf("Cmp(%s, %s) = %d, but %d when %s is added", short(a), short(b), ab, got, short(c))
		}
		if got := ratio.Sign(ok(ratio.Sub(a, b))); got != ab {
			t.Errorf("Cmp(%s, %s) = %d, but the difference has the sign %d", short(a), short(b), ab, got)
		}
		m := ok(ratio.Mid(a, b))
		if ratio.Cmp(a, m) != ab || ratio.Cmp(m, b) != ab {
			t.Errorf("Mid(%s, %s) = %s, which does not lie between", short(a), short(b), short(m))
		}
		equal(t, "Min + Max, a + b", ok(ratio.Add(ratio.Min(a, b), ratio.Max(a, b))), ok(ratio.Add(a, b)))
	})
}

// P3.2, P3.7: the floor is the greatest integer that is at most a.
func TestFloorBounds(t *testing.T) {
	ok := must(t)
	triples(900, func(a, _, _ api.Rat) {
		n, e := ratio.Floor(a)
		low := ok(api.Rat(n), e)
		if ratio.Cmp(low, a) > 0 || ratio.Cmp(ok(ratio.Add(low, "1")), a) <= 0 || ratio.Den(low) != "1" {
			t.Errorf("Floor(%s) = %s", short(a), short(low))
		}
	})
}

// P3.8: the simplest number of an interval stays the simplest one of each smaller
// interval in which it lies, and is the negative one of the interval's negative.
func TestSimplestProperty(t *testing.T) {
	ok := must(t)
	triples(200, func(a, b, c api.Rat) {
		low, high := ratio.Min(ratio.Min(a, b), c), ratio.Max(ratio.Max(a, b), c)
		s := ok(ratio.Simplest(low, high))
		if ratio.Cmp(low, s) > 0 || ratio.Cmp(s, high) > 0 {
			t.Errorf("Simplest(%s, %s) = %s", short(low), short(high), short(s))
		}
		equal(t, "the simplest one from low to s", ok(ratio.Simplest(low, s)), s)
		equal(t, "the simplest one from s to high", ok(ratio.Simplest(s, high)), s)
		equal(t, "the simplest one of one number", ok(ratio.Simplest(a, a)), a)
		equal(t, "the simplest one of the negatives", ok(ratio.Simplest(ratio.Neg(high), ratio.Neg(low))), ratio.Neg(s))
		for _, x := range []api.Rat{a, b, c, ok(ratio.Mid(a, c))} {
			if simpler(number(x), number(s)) {
				t.Errorf("Simplest(%s, %s) = %s, but %s is simpler", short(low), short(high), short(s), short(x))
			}
		}
	})
}
