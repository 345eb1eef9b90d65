package matrix_test

import (
	"math/rand/v2"
	"slices"
	"testing"

	"torus/api"
	"torus/matrix"
)

// P5.1: matrices of all kinds are matrices, also with the ends of the field and of the sizes.
func TestCheck(t *testing.T) {
	r := rand.New(rand.NewPCG(5, 1))
	for p := range 300 {
		want := noPrime(p)
		for _, m := range [][][]int{nil, {nil, nil}, {{0, 1}, {1, 0}}} {
			if e := matrix.Check(p, m); e != want {
				t.Errorf("Check of %s over %d: error %d; want %d", texts(m), p, e, want)
			}
		}
	}
	for _, p := range somePrimes {
		for _, m := range append(matrices(r, p), largeSquares(r, p)...) {
			if e := matrix.Check(p, m); e != api.OK {
				t.Errorf("Check of %s over %d: error %d", texts(m), p, e)
			}
		}
	}
}

// P5.1: the rows of the transpose are the columns, and those of its transpose the rows.
func TestTranspose(t *testing.T) {
	r := rand.New(rand.NewPCG(5, 2))
	for _, p := range somePrimes {
		for _, m := range matrices(r, p) {
			n, e := matrix.Transpose(p, m)
			is(t, "the transpose of "+texts(m), n, e, turned(m), api.OK)
			if width(m) > 0 { // otherwise the rows are lost
				m2, e := matrix.Transpose(p, n)
				is(t, "the transpose of "+texts(n), m2, e, m, api.OK)
			}
		}
	}
	for _, c := range []struct{ m, want [][]int }{
		{nil, nil}, {[][]int{nil}, nil}, {full(3, 0, 0), nil}, {[][]int{{1, 2, 0}}, [][]int{{1}, {2}, {0}}}, {[][]int{{1}, {2}}, [][]int{{1, 2}}}, {[][]int{{1, 2, 3}, {4, 5, 6}}, [][]int{{1, 4}, {2, 5}, {3, 6}}},
	} {
		n, e := matrix.Transpose(7, c.m)
		is(t, "the transpose of "+texts(c.m), n, e, c.want, api.OK)
	}
}

// P5.1: products of sizes of all kinds, those with no rows, columns or both among them.
func TestMul(t *testing.T) {
	r := rand.New(rand.NewPCG(5, 3))
	sizes := []int{0, 1, 2, 3, 7, api.MaxRows}
	for _, p := range somePrimes {
		for _, n := range sizes {
			for _, k := range sizes {
				for _, l := range sizes {
					if n == 0 && k > 0 || k == 0 && l > 0 {
						continue // no matrix without rows has columns
					}
					a, b := random(r, p, n, k, 0.8), random(r, p, k, l, 0.8)
					if r.IntN(3) == 0 { // the greatest sums
						a, b = full(n, k, p-1), full(k, l, p-1)
					}
					c, e := matrix.Mul(p, a, b)
					is(t, "the product of "+texts(a)+" and "+texts(b), c, e, times(p, a, b, l), api.OK)
				}
			}
		}
	}
	for _, x := range []struct{ a, b, want [][]int }{
		{nil, nil, nil}, {nil, [][]int{}, nil}, {full(3, 0, 0), nil, full(3, 0, 0)}, {full(3, 2, 1), full(2, 0, 0), full(3, 0, 0)},
		{[][]int{{1, 2}, {3, 4}}, [][]int{{1, 2}, {3, 4}}, [][]int{{0, 3}, {1, 1}}}, {[][]int{{1, 2, 3}}, [][]int{{1}, {1}, {1}}, [][]int{{6}}}, {[][]int{{2}, {3}}, [][]int{{4, 5}}, [][]int{{1, 3}, {5, 1}}},
	} {
		c, e := matrix.Mul(7, x.a, x.b)
		is(t, "the product of "+texts(x.a)+" and "+texts(x.b), c, e, x.want, api.OK)
	}
}

// P5.7: Mul is associative, and transposes multiply in the other order.
func TestMulProperties(t *testing.T) {
	r := rand.New(rand.NewPCG(5, 4))
	for _, p := range somePrimes {
		must := must[[][]int](t)
		mul := func(a, b [][]int) [][]int { return must(matrix.Mul(p, a, b)) }
		turn := func(a [][]int) [][]int { return must(matrix.Transpose(p, a)) }
		for range 60 {
			s := []int{1 + r.IntN(9), 1 + r.IntN(9), 1 + r.IntN(9), 1 + r.IntN(9)}
			if r.IntN(10) == 0 {
				s[r.IntN(4)] = api.MaxRows
			}
			a, b, c := random(r, p, s[0], s[1], 0.7), random(r, p, s[1], s[2], 0.7), random(r, p, s[2], s[3], 0.7)
			if left, right := mul(mul(a, b), c), mul(a, mul(b, c)); !same(left, right) {
				t.Errorf("over %d the product of %s, %s, %s is %s or %s", p, texts(a), texts(b), texts(c), texts(left), texts(right))
			}
			if left, right := turn(mul(a, b)), mul(turn(b), turn(a)); !same(left, right) {
				t.Errorf("over %d the transpose of the product of %s, %s is %s; want %s", p, texts(a), texts(b), texts(left), texts(right))
			}
			is(t, "the product with the identity", mul(a, identity(s[1])), api.OK, a, api.OK)
			is(t, "the product of the identity", mul(identity(s[0]), a), api.OK, a, api.OK)
		}
	}
}

// P5.7, P5.9: the determinant of a product is the product of the determinants, and the
// products in both orders have one characteristic polynomial.
func TestMulSquares(t *testing.T) {
	r := rand.New(rand.NewPCG(5, 5))
	for _, p := range somePrimes {
		for _, n := range []int{1, 2, 3, 4, 5, 6, 20, api.MaxRows} {
			for _, a := range [][][]int{regular(r, p, n), random(r, p, n, n, 0.5), ofRank(r, p, n, n, n-1)} {
				b := regular(r, p, n)
				ab, ba := times(p, a, b, n), times(p, b, a, n)
				x, y, xy := must[int](t)(matrix.Det(p, a)), must[int](t)(matrix.Det(p, b)), must[int](t)(matrix.Det(p, ab))
				if xy != x*y%p {
					t.Errorf("over %d the determinants of %s, %s and their product are %d, %d, %d", p, texts(a), texts(b), x, y, xy)
				}
				f, g := must[[]int](t)(matrix.Charpoly(p, ab)), must[[]int](t)(matrix.Charpoly(p, ba))
				if !slices.Equal(f, g) {
					t.Errorf("over %d the products of %s, %s have the polynomials %s and %s", p, texts(a), texts(b), text(f), text(g))
				}
			}
		}
	}
}
