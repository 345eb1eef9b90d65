package column_test

import (
	"math/rand/v2"
	"testing"

	"torus/api"
	"torus/column"
)

// samples are columns over p: empty, with one term, short, with gaps and with MaxCells terms.
func samples(r *rand.Rand, p int) [][]api.Term {
	return [][]api.Term{
		nil, col(0, 1), col(0, p-1), col(api.MaxCells-1, p-1), col(0, 1, 3, p-1), col(3, 1, 4, p-1),
		random(r, p, 10, 0.5), random(r, p, 10, 0.5), random(r, p, 60, 0.9), random(r, p, api.MaxCells, 0.02), random(r, p, api.MaxCells, 0.7),
		full(api.MaxCells, 1), full(api.MaxCells, p-1), full(30, p-1),
	}
}

// P4.3: Add returns a + k b and Scale k a, for all kinds of k.
func TestAddScale(t *testing.T) {
	r := rand.New(rand.NewPCG(2, 1))
	for _, p := range somePrimes {
		l := samples(r, p)
		for _, a := range l {
			for _, k := range factors(p) {
				for _, b := range l {
					c, e := column.Add(p, a, k, b)
					isVector(t, "Add of "+text(a)+" and "+text(b), p, c, e, plus(p, vectorOf(a), k, vectorOf(b)))
				}
				c, e := column.Scale(p, a, k)
				isVector(t, "Scale of "+text(a), p, c, e, plus(p, &vector{}, k, vectorOf(a)))
			}
		}
	}
}

// P4.3: Dot returns the sum of the products in all rows.
func TestDot(t *testing.T) {
	r := rand.New(rand.NewPCG(2, 2))
	for _, p := range somePrimes {
		l := samples(r, p)
		for _, a := range l {
			for _, b := range l {
				v, w, want := vectorOf(a), vectorOf(b), 0
				for row := range v {
					want = (want + v[row]*w[row]) % p
				}
				if x, e := column.Dot(p, a, b); x != want || e != api.OK {
					t.Errorf("Dot of %s and %s over %d is %d, error %d; want %d", text(a), text(b), p, x, e, want)
				}
			}
		}
	}
}

// P4.3: Combine returns the sum of the columns that x takes, also of a list without
// columns, with equal columns and with MaxCells columns that have MaxCells terms.
func TestCombine(t *testing.T) {
	r := rand.New(rand.NewPCG(2, 3))
	for _, p := range somePrimes {
		l := samples(r, p)
		twice := append(l[:len(l):len(l)], l...)
		big := make([][]api.Term, api.MaxCells)
		for i := range big {
			big[i] = full(api.MaxCells, p-1)
		}
		for _, c := range []struct {
			l [][]api.Term
			x []api.Term
		}{
			{nil, nil}, {l, nil}, {l, col(0, 1)}, {l, col(len(l)-1, p-1)}, {l, full(len(l), p-1)}, {l, random(r, p, len(l), 0.5)},
			{twice, full(len(twice), 1)}, {twice, random(r, p, len(twice), 0.7)}, {big, full(api.MaxCells, p-1)}, {big, full(p, 1)}, {units(api.MaxCells), random(r, p, api.MaxCells, 0.5)},
		} {
			got, e := column.Combine(p, c.l, c.x)
			isVector(t, "Combine of "+texts(c.l)+" by "+text(c.x), p, got, e, sumOf(p, c.l, c.x))
		}
	}
}

// P4.6: columns form a vector space under Add and Scale.
func TestSpace(t *testing.T) {
	r := rand.New(rand.NewPCG(2, 4))
	ok := must[[]api.Term](t)
	for _, p := range somePrimes {
		add := func(a []api.Term, k int, b []api.Term) []api.Term { return ok(column.Add(p, a, k, b)) }
		scale := func(a []api.Term, k int) []api.Term { return ok(column.Scale(p, a, k)) }
		equal := func(what string, a, b []api.Term) {
			t.Helper()
			is(t, what, a, api.OK, b, api.OK)
		}
		for range 60 {
			a, b, c := random(r, p, 30, 0.6), random(r, p, 30, 0.6), random(r, p, 30, 0.6)
			j, k := factors(p)[r.IntN(14)], factors(p)[r.IntN(14)] // small enough for j + k and j k
			equal("a + b, b + a", add(a, 1, b), add(b, 1, a))
			equal("(a + b) + c, a + (b + c)", add(add(a, 1, b), 1, c), add(a, 1, add(b, 1, c)))
			equal("a + 0, a", add(a, k, nil), a)
			equal("0 + k a, k a", add(nil, k, a), scale(a, k))
			equal("a - a, 0", add(a, -1, a), nil)
			equal("a + 0 b, a", add(a, 0, b), a)
			equal("1 a, a", scale(a, 1), a)
			equal("0 a, 0", scale(a, 0), nil)
			equal("p a, 0", scale(a, p), nil)
			equal("j (k a), (j k) a", scale(scale(a, k), j), scale(a, j*k))
			equal("(j + k) a, j a + k a", scale(a, j+k), add(scale(a, j), k, a))
			equal("k (a + b), k a + k b", scale(add(a, 1, b), k), add(scale(a, k), k, b))
			equal("a + k b - k b, a", add(add(a, k, b), -k, b), a)
		}
	}
}

// P4.6: Dot is bilinear and symmetric.
func TestBilinear(t *testing.T) {
	r := rand.New(rand.NewPCG(2, 5))
	ok, number := must[[]api.Term](t), must[int](t)
	for _, p := range somePrimes {
		dot := func(a, b []api.Term) int { return number(column.Dot(p, a, b)) }
		for range 60 {
			a, b, c := random(r, p, 30, 0.6), random(r, p, 30, 0.6), random(r, p, 30, 0.6)
			k := factors(p)[r.IntN(14)]
			s := ok(column.Add(p, a, k, b))
			want := mod(p, dot(a, c)+mod(p, k)*dot(b, c))
			if x, y := dot(s, c), dot(c, s); x != want || y != want {
				t.Errorf("over %d: the products of a + k b and c are %d and %d; want %d", p, x, y, want)
			}
			if x, y := dot(a, b), dot(b, a); x != y {
				t.Errorf("over %d: the product of %s and %s is %d, the other way %d", p, text(a), text(b), x, y)
			}
		}
	}
}
