package matrix_test

import (
	"math/big"
	"math/rand/v2"
	"slices"
	"testing"

	"torus/api"
	"torus/matrix"
)

// permuted is the determinant of m by its definition, a sum over all permutations.
func permuted(p int, m [][]int) int {
	sum := 0
	var take func(i, product, sign int, used []bool)
	take = func(i, product, sign int, used []bool) {
		if i == len(m) {
			sum = mod(p, sum+sign*product)
			return
		}
		above := 0 // used columns to the right make inversions
		for j := len(m) - 1; j >= 0; j-- {
			if used[j] {
				above++
				continue
			}
			used[j] = true
			take(i+1, product*m[i][j]%p, sign*(1-above%2*2), used)
			used[j] = false
		}
	}
	take(0, 1, 1, make([]bool, len(m)))
	return sum
}

// integers is m over the integers.
func integers(m [][]int) [][]*big.Int {
	c := make([][]*big.Int, len(m))
	for i, row := range m {
		for _, x := range row {
			c[i] = append(c[i], big.NewInt(int64(x)))
		}
	}
	return c
}

// residue is the residue of an integer.
func residue(p int, x *big.Int) int {
	return int(new(big.Int).Mod(x, big.NewInt(int64(p))).Int64())
}

// wholeDet is the determinant of m over the integers, modulo p, by the elimination of
// Bareiss, in which all divisions leave nothing.
func wholeDet(p int, m [][]int) int {
	c, last, sign := integers(m), big.NewInt(1), int64(1)
	for n := range c {
		i := slices.IndexFunc(c[n:], func(row []*big.Int) bool { return row[n].Sign() != 0 })
		if i < 0 {
			return 0
		}
		if i > 0 {
			c[n], c[n+i] = c[n+i], c[n]
			sign = -sign
		}
		for _, row := range c[n+1:] {
			for j := n + 1; j < len(c); j++ {
				x := new(big.Int).Mul(row[j], c[n][n])
				x.Sub(x, new(big.Int).Mul(row[n], c[n][j]))
				row[j] = x.Quo(x, last)
			}
		}
		last = c[n][n]
	}
	return residue(p, new(big.Int).Mul(last, big.NewInt(sign)))
}

// wholeCharpoly is the characteristic polynomial of m over the integers, modulo p, by the
// method of Faddeev and Le Verrier, in which all divisions leave nothing.
func wholeCharpoly(p int, m [][]int) []int {
	n := len(m)
	a, b := integers(m), integers(full(n, n, 0))
	poly := make([]int, n+1)
	c := big.NewInt(1)
	for k := 1; k <= n+1; k++ {
		poly[n+1-k] = residue(p, c)
		for i := range b {
			b[i][i].Add(b[i][i], c)
		}
		next := integers(full(n, n, 0))
		c = new(big.Int)
		for i := range n {
			for j := range n {
				for l := range n {
					next[i][j].Add(next[i][j], new(big.Int).Mul(a[i][l], b[l][j]))
				}
			}
			c.Sub(c, next[i][i])
		}
		c.Quo(c, big.NewInt(int64(k)))
		b = next
	}
	return poly
}

// P5.2: determinants by their definition, and over the integers.
func TestDet(t *testing.T) {
	r := rand.New(rand.NewPCG(7, 1))
	for _, p := range somePrimes {
		for _, m := range squares(r, p) {
			if len(m) <= 6 {
				x, e := matrix.Det(p, m)
				isNumber(t, "the determinant of "+texts(m), x, e, permuted(p, m), api.OK)
			}
		}
		for _, m := range append(squares(r, p), largeSquares(r, p)...) {
			x, e := matrix.Det(p, m)
			isNumber(t, "the determinant of "+texts(m), x, e, wholeDet(p, m), api.OK)
		}
	}
	for _, c := range []struct {
		m    [][]int
		want int
	}{{nil, 1}, {[][]int{{0}}, 0}, {[][]int{{6}}, 6}, {[][]int{{0, 1}, {1, 0}}, 6}, {[][]int{{1, 2}, {2, 4}}, 0}, {diagonal(1, 2, 3, 4), 3}, {[][]int{{0, 0, 1}, {1, 0, 0}, {0, 1, 0}}, 1}} {
		x, e := matrix.Det(7, c.m)
		isNumber(t, "the determinant of "+texts(c.m), x, e, c.want, api.OK)
	}
}

// P5.2: characteristic polynomials over the integers, and by determinants.
func TestCharpoly(t *testing.T) {
	r := rand.New(rand.NewPCG(7, 2))
	for _, p := range somePrimes {
		for _, m := range squares(r, p) {
			f, e := matrix.Charpoly(p, m)
			isRow(t, "the characteristic polynomial of "+texts(m), f, e, wholeCharpoly(p, m), api.OK)
		}
	}
	for _, c := range []struct {
		m    [][]int
		want []int
	}{
		{nil, []int{1}}, {[][]int{{3}}, []int{4, 1}}, {[][]int{{0}}, []int{0, 1}}, {full(3, 3, 0), []int{0, 0, 0, 1}}, {identity(2), []int{1, 5, 1}}, {[][]int{{0, 0, 2}, {1, 0, 3}, {0, 1, 4}}, []int{5, 4, 3, 1}},
		{identity(7), []int{6, 0, 0, 0, 0, 0, 0, 1}}, {diagonal(0, 1, 2, 3, 4, 5, 6), []int{0, 6, 0, 0, 0, 0, 0, 1}},
	} {
		f, e := matrix.Charpoly(7, c.m)
		isRow(t, "the characteristic polynomial of "+texts(c.m), f, e, c.want, api.OK)
	}
}

// valueAt is the value of a polynomial at x.
func valueAt(p int, f []int, x int) int {
	y := 0
	for i := len(f) - 1; i >= 0; i-- {
		y = (y*x + f[i]) % p
	}
	return y
}

// P5.2, P5.9: with MaxRows rows, polynomials by their values, which are determinants: over
// 251 there are more values than coefficients.
func TestCharpolyValues(t *testing.T) {
	r := rand.New(rand.NewPCG(7, 3))
	for _, p := range []int{2, 5, 127, 251} {
		for _, m := range append(largeSquares(r, p), squares(r, p)[20:]...) {
			f, e := matrix.Charpoly(p, m)
			if len(f) != len(m)+1 || f[len(m)] != 1 || e != api.OK {
				t.Fatalf("the characteristic polynomial of %s over %d is %s, error %d", texts(m), p, text(f), e)
			}
			for x := range p {
				c := full(len(m), len(m), 0)
				for i, row := range m {
					for j, a := range row {
						c[i][j] = mod(p, -a)
					}
					c[i][i] = mod(p, x-row[i])
				}
				if y := must[int](t)(matrix.Det(p, c)); y != valueAt(p, f, x) {
					t.Errorf("the characteristic polynomial of %s over %d is %d at %d; want %d", texts(m), p, valueAt(p, f, x), x, y)
				}
			}
		}
	}
}

// P5.2: with MaxRows rows, a matrix whose polynomial is known, and all that are similar.
func TestCharpolyCompanion(t *testing.T) {
	r := rand.New(rand.NewPCG(7, 4))
	const n = api.MaxRows
	for _, p := range somePrimes {
		for _, share := range []float64{0, 0.05, 1} {
			want := append(random(r, p, 1, n, share)[0], 1)
			m := full(n, n, 0)
			for i := range n {
				m[i][n-1] = mod(p, -want[i])
				if i > 0 {
					m[i][i-1] = 1
				}
			}
			c := regular(r, p, n)
			inverse := must[[][]int](t)(matrix.Invert(p, c))
			for _, similar := range [][][]int{m, turned(m), times(p, times(p, c, m, n), inverse, n)} {
				f, e := matrix.Charpoly(p, similar)
				isRow(t, "the characteristic polynomial of a companion", f, e, want, api.OK)
			}
		}
	}
}

// P5.9: a matrix is a zero of its polynomial, whose coefficients contain the determinant
// and the sum of the diagonal.
func TestCharpolyProperties(t *testing.T) {
	r := rand.New(rand.NewPCG(7, 5))
	for _, p := range somePrimes {
		l := squares(r, p)
		if p == 2 || p == 251 {
			l = append(l, largeSquares(r, p)...)
		}
		for _, m := range l {
			n := len(m)
			f := must[[]int](t)(matrix.Charpoly(p, m))
			y := full(n, n, 0)
			for i := n; i >= 0; i-- {
				y = must[[][]int](t)(matrix.Mul(p, y, m))
				for j := range y {
					y[j][j] = (y[j][j] + f[i]) % p
				}
			}
			if !same(y, full(n, n, 0)) {
				t.Errorf("%s over %d is no zero of its polynomial %s", texts(m), p, text(f))
			}
			det, trace := must[int](t)(matrix.Det(p, m)), 0
			for i := range n {
				trace += m[i][i]
			}
			if f[0] != mod(p, det*(1-n%2*2)) || n > 0 && f[n-1] != mod(p, -trace) {
				t.Errorf("the polynomial %s of %s over %d, with the determinant %d and the trace %d", text(f), texts(m), p, det, mod(p, trace))
			}
		}
	}
}

// P5.2, P5.8: there is an inverse exactly if the determinant is not 0, and it is one from
// both sides.
func TestInvert(t *testing.T) {
	r := rand.New(rand.NewPCG(7, 6))
	for _, p := range somePrimes {
		for _, m := range append(squares(r, p), largeSquares(r, p)...) {
			n := len(m)
			inverse, e := matrix.Invert(p, m)
			if wholeDet(p, m) == 0 {
				is(t, "the inverse of "+texts(m), inverse, e, nil, api.ErrZero)
				continue
			}
			if e != api.OK || matrix.Check(p, inverse) != api.OK || !same(times(p, m, inverse, n), identity(n)) || !same(times(p, inverse, m, n), identity(n)) {
				t.Errorf("the inverse of %s over %d: %s, error %d", texts(m), p, texts(inverse), e)
			}
		}
	}
	for _, c := range []struct {
		m, want [][]int
		e       api.Errno
	}{
		{nil, nil, api.OK}, {[][]int{{0}}, nil, api.ErrZero}, {[][]int{{3}}, [][]int{{5}}, api.OK}, {[][]int{{0, 2}, {3, 0}}, [][]int{{0, 5}, {4, 0}}, api.OK},
		{[][]int{{1, 2}, {2, 4}}, nil, api.ErrZero}, {full(3, 3, 0), nil, api.ErrZero}, {identity(3), identity(3), api.OK}, {[][]int{{1, 1}, {0, 1}}, [][]int{{1, 6}, {0, 1}}, api.OK},
	} {
		m, e := matrix.Invert(7, c.m)
		is(t, "the inverse of "+texts(c.m), m, e, c.want, c.e)
	}
}
