package matrix

import (
	"iter"

	"torus/modp"
)

// columns returns the number of columns of m.
func columns(m [][]int) int {
	if len(m) == 0 {
		return 0
	}
	return len(m[0])
}

// column yields the rows of m and their entries in column j.
func column(m [][]int, j int) iter.Seq2[int, int] {
	return func(yield func(i, x int) bool) {
		for i, row := range m {
			if !yield(i, row[j]) {
				return
			}
		}
	}
}

// widened returns a copy of m with n more columns, which are 0.
func widened(m [][]int, n int) [][]int {
	c := make([][]int, len(m))
	for i, row := range m {
		c[i] = make([]int, len(row)+n)
		copy(c[i], row)
	}
	return c
}

// withIdentity returns a copy of m with the identity beside it.
func withIdentity(m [][]int) [][]int {
	c := widened(m, len(m))
	for i, row := range m {
		c[i][len(row)+i] = 1
	}
	return c
}

// transposed returns the matrix whose rows are the columns of m.
func transposed(m [][]int) [][]int {
	t := make([][]int, columns(m))
	for j := range t {
		t[j] = make([]int, len(m))
		for i, x := range column(m, j) {
			t[j][i] = x
		}
	}
	return t
}

// product returns the product of a and b, whose sizes fit.
func product(p int, a, b [][]int) [][]int {
	c := make([][]int, len(a))
	for i, row := range a {
		c[i] = make([]int, columns(b))
		for j := range c[i] {
			s := 0 // at most MaxRows products of two residues: no need to take residues on the way
			for k, x := range column(b, j) {
				s += row[k] * x
			}
			c[i][j] = modp.Mod(p, s)
		}
	}
	return c
}

// add adds k times b to the beginning of a, which is not shorter.
func add(p int, a []int, k int, b []int) {
	for i, x := range b {
		a[i] = modp.Mod(p, a[i]+k*x)
	}
}
