package matrix_test

import (
	"math"
	"math/rand/v2"
	"slices"
	"strconv"
	"strings"
	"testing"

	"torus/api"
)

// somePrimes are small and large primes, the ends of the range among them.
var somePrimes = []int{2, 3, 5, 7, 13, 127, 251}

// noPrimes are numbers that are no primes up to MaxPrime.
var noPrimes = []int{math.MinInt, -251, -7, -2, -1, 0, 1, 4, 9, 15, 249, 250, 252, 253, 255, 256, 257, 258, 65537, 1<<32 + 7, math.MaxInt}

// mod is the residue of a.
func mod(p, a int) int { return (a%p + p) % p }

// full is the matrix with n rows of k numbers x.
func full(n, k, x int) [][]int {
	m := make([][]int, n)
	for i := range m {
		m[i] = slices.Repeat([]int{x}, k)
	}
	return m
}

// diagonal is the square matrix with these numbers on its diagonal and 0 elsewhere.
func diagonal(xs ...int) [][]int {
	m := full(len(xs), len(xs), 0)
	for i, x := range xs {
		m[i][i] = x
	}
	return m
}

// identity is the square matrix with 1 on its diagonal and 0 elsewhere.
func identity(n int) [][]int { return diagonal(slices.Repeat([]int{1}, n)...) }

// random returns a matrix over p with n rows and k columns whose entries are not 0 in
// the given share of cases.
func random(r *rand.Rand, p, n, k int, share float64) [][]int {
	m := full(n, k, 0)
	for _, row := range m {
		for j := range row {
			if r.Float64() < share {
				row[j] = 1 + r.IntN(p-1)
			}
		}
	}
	return m
}

// regular returns a square matrix with a determinant other than 0: rows are added to
// others, in all ways, beginning with a diagonal without 0.
func regular(r *rand.Rand, p, n int) [][]int {
	m := full(n, n, 0)
	for i, j := range r.Perm(n) {
		m[i][j] = 1 + r.IntN(p-1)
	}
	for range 3 * n * n {
		if i, j, k := r.IntN(n), r.IntN(n), r.IntN(p); i != j {
			for c := range m[i] {
				m[i][c] = (m[i][c] + k*m[j][c]) % p
			}
		}
	}
	return m
}

// ofRank returns a matrix of the given rank: one between two regular matrices.
func ofRank(r *rand.Rand, p, n, k, rank int) [][]int {
	m := full(n, k, 0)
	for i := range rank {
		m[i][i] = 1
	}
	return times(p, times(p, regular(r, p, n), m, k), regular(r, p, k), k)
}

// times is the product of a and b, which has k columns, by its definition.
func times(p int, a, b [][]int, k int) [][]int {
	c := full(len(a), k, 0)
	for i := range c {
		for j := range k {
			for l := range b {
				c[i][j] = (c[i][j] + a[i][l]*b[l][j]) % p
			}
		}
	}
	return c
}

// image is the vector m x.
func image(p int, m [][]int, x []int) []int {
	v := make([]int, len(m))
	for i, row := range m {
		for j, a := range row {
			v[i] = (v[i] + a*x[j]) % p
		}
	}
	return v
}

// isZero reports whether all numbers of v are 0.
func isZero(v []int) bool { return !slices.ContainsFunc(v, func(x int) bool { return x != 0 }) }

// width is the number of columns of m.
func width(m [][]int) int {
	if len(m) == 0 {
		return 0
	}
	return len(m[0])
}

// turned is the matrix whose rows are the columns of m, by its definition.
func turned(m [][]int) [][]int {
	t := full(width(m), len(m), 0)
	for i, row := range m {
		for j, x := range row {
			t[j][i] = x
		}
	}
	return t
}

// rank is the greatest number of independent rows of m, by elimination from the last
// column on: not the way of the package.
func rank(p int, m [][]int) int {
	rows := copied(m)
	n := 0
	for j := width(m) - 1; j >= 0; j-- {
		i := slices.IndexFunc(rows[n:], func(row []int) bool { return row[j] != 0 })
		if i < 0 {
			continue
		}
		rows[n], rows[n+i] = rows[n+i], rows[n]
		inverse := 1
		for rows[n][j]*inverse%p != 1 {
			inverse++
		}
		for _, row := range rows[n+1:] {
			k := row[j] * inverse
			for c := range row {
				row[c] = mod(p, row[c]-k*rows[n][c])
			}
		}
		n++
	}
	return n
}

// isEchelon reports whether m is an echelon form over p of n rows and k columns, by the
// definition.
func isEchelon(p int, m [][]int, n, k int) bool {
	if len(m) != n {
		return false
	}
	last := -1
	for i, row := range m {
		if len(row) != k || slices.ContainsFunc(row, func(x int) bool { return x < 0 || x >= p }) {
			return false
		}
		if isZero(row) {
			last = k // so that all rows below must be 0
			continue
		}
		pivot := slices.IndexFunc(row, func(x int) bool { return x != 0 })
		if pivot <= last || row[pivot] != 1 {
			return false
		}
		for j, other := range m {
			if j != i && other[pivot] != 0 {
				return false
			}
		}
		last = pivot
	}
	return true
}

// isBasis reports whether m is a basis matrix over p with k columns.
func isBasis(p int, m [][]int, k int) bool {
	return isEchelon(p, m, len(m), k) && !slices.ContainsFunc(m, isZero)
}

// spans reports whether the rows of a and b span the same space.
func spans(p int, a, b [][]int) bool {
	n := rank(p, slices.Concat(a, b))
	return rank(p, a) == n && rank(p, b) == n
}

// vectors are all vectors over p with n numbers.
func vectors(p, n int) [][]int {
	all := [][]int{{}}
	for range n {
		var longer [][]int
		for _, v := range all {
			for x := range p {
				longer = append(longer, append(slices.Clone(v), x))
			}
		}
		all = longer
	}
	return all
}

// spanned is the set of all sums of multiples of the rows of m, which has k columns, as
// texts.
func spanned(p int, m [][]int, k int) map[string]bool {
	all := map[string]bool{}
	for _, x := range vectors(p, len(m)) {
		all[text(times(p, [][]int{x}, m, k)[0])] = true
	}
	return all
}

// text shows numbers, the first ones if there are many.
func text(v []int) string {
	var s []string
	for i, x := range v {
		if i == 12 {
			s = append(s, "... ("+strconv.Itoa(len(v))+")")
			break
		}
		s = append(s, strconv.Itoa(x))
	}
	return strings.Join(s, " ")
}

// texts shows a matrix, its first rows if there are many.
func texts(m [][]int) string {
	var s []string
	for i, row := range m {
		if i == 8 {
			s = append(s, "... ("+strconv.Itoa(len(m))+" rows)")
			break
		}
		s = append(s, text(row))
	}
	return "[" + strings.Join(s, ", ") + "]"
}

// same reports whether two matrices have the same rows.
func same(a, b [][]int) bool { return slices.EqualFunc(a, b, slices.Equal[[]int]) }

// copied returns a copy that shares no memory with m.
func copied(m [][]int) [][]int {
	c := make([][]int, len(m))
	for i, row := range m {
		c[i] = slices.Clone(row)
	}
	return c
}

// is checks a result that is a matrix.
func is(t *testing.T, what string, m [][]int, e api.Errno, want [][]int, wantError api.Errno) {
	t.Helper()
	if !same(m, want) || e != wantError {
		t.Errorf("%s: %s, error %d; want %s, error %d", what, texts(m), e, texts(want), wantError)
	}
}

// isRow checks a result that is a list of numbers.
func isRow(t *testing.T, what string, v []int, e api.Errno, want []int, wantError api.Errno) {
	t.Helper()
	is(t, what, [][]int{v}, e, [][]int{want}, wantError)
}

// isNumber checks a result that is a number.
func isNumber(t *testing.T, what string, x int, e api.Errno, want int, wantError api.Errno) {
	t.Helper()
	isRow(t, what, []int{x}, e, []int{want}, wantError)
}

// must returns a result and fails the test if there is an error.
func must[T any](t *testing.T) func(x T, e api.Errno) T {
	return func(x T, e api.Errno) T {
		t.Helper()
		if e != api.OK {
			t.Fatalf("error %d; want none", e)
		}
		return x
	}
}

// matrices are matrices over p of all kinds: without rows, with rows but without columns,
// with one row or column, of every rank, with rows that are 0, equal or multiples of
// others, with columns that are 0, and with MaxRows rows or columns.
func matrices(r *rand.Rand, p int) [][][]int {
	l := [][][]int{
		nil, {}, {nil}, {{}, nil, {}}, full(api.MaxRows, 0, 0),
		{{0}}, {{1}}, {{p - 1}}, {{0, 0, 0}}, {{0, p - 1, 1}}, {{0}, {0}}, {{0}, {p - 1}, {1}},
		{{1, 0}, {1, 0}}, {{0, 1}, {0, p - 1}}, {{0, 1}, {1, 0}}, {{1, 1}, {1, 1}, {1, 0}}, {{0, 0, 1}, {0, 0, 0}, {0, 1, 1}},
		identity(5), diagonal(1, 0, p-1, 0), full(4, 6, 1), full(6, 4, p-1), full(3, 3, 0),
		random(r, p, 1, api.MaxRows, 0.8), random(r, p, api.MaxRows, 1, 0.8), full(api.MaxRows, api.MaxRows, p-1), identity(api.MaxRows),
		random(r, p, api.MaxRows, api.MaxRows, 0.9), random(r, p, api.MaxRows, 9, 0.5), random(r, p, 9, api.MaxRows, 0.5),
		ofRank(r, p, api.MaxRows, api.MaxRows, 60), ofRank(r, p, 40, api.MaxRows, 13),
	}
	for n := 1; n <= 5; n++ {
		for k := 1; k <= 5; k++ {
			for rank := range min(n, k) + 1 {
				l = append(l, ofRank(r, p, n, k, rank))
			}
			m := random(r, p, n, k, 0.7)
			m[r.IntN(n)] = m[0] // a row twice, or a multiple of one
			for j := range m[n-1] {
				m[n-1][j] = mod(p, 2*m[0][j])
			}
			l = append(l, random(r, p, n, k, 0.3), copied(m))
		}
	}
	return l
}

// squares are square matrices over p of all kinds.
func squares(r *rand.Rand, p int) [][][]int {
	l := [][][]int{
		nil, {{0}}, {{1}}, {{p - 1}}, {{0, 1}, {1, 0}}, {{0, 1}, {0, 0}}, {{0, 0}, {1, 0}}, {{1, 1}, {0, 1}}, {{0, 0, 1}, {1, 0, 0}, {0, 1, 0}},
		{{0, 1, 0}, {0, 0, 1}, {0, 0, 0}}, {{1, 0, 1}, {0, 1, 0}, {1, 0, 1}}, {{0, 0, 1}, {0, 1, 0}, {1, 0, 0}}, {{1, 2 % p, 0}, {0, 0, 0}, {1, 1, 0}},
		identity(4), full(3, 3, 0), full(5, 5, p-1), diagonal(0, 1, p-1), diagonal(1, p-1, p-1, 1),
	}
	for n := 1; n <= 6; n++ {
		for rank := range n + 1 {
			l = append(l, ofRank(r, p, n, n, rank))
		}
		l = append(l, regular(r, p, n), random(r, p, n, n, 0.3), random(r, p, n, n, 0.6), random(r, p, n, n, 1))
	}
	return append(l, random(r, p, 20, 20, 0.1), random(r, p, 20, 20, 0.9), ofRank(r, p, 17, 17, 16), regular(r, p, 18))
}

// largeSquares are square matrices with MaxRows rows.
func largeSquares(r *rand.Rand, p int) [][][]int {
	const n = api.MaxRows
	return [][][]int{identity(n), full(n, n, 0), full(n, n, p-1), random(r, p, n, n, 1), random(r, p, n, n, 0.03), regular(r, p, n), ofRank(r, p, n, n, n-1)}
}
