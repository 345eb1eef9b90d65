package matrix

import "torus/modp"

// A form is an echelon form with the columns of its pivots.
type form struct {
	rows   [][]int
	pivots []int
	factor int // the determinant of a square matrix is this one times that of its rows
}

// reduce returns the echelon form of m.
func reduce(p int, m [][]int) *form {
	f := &form{rows: widened(m, 0), factor: 1}
	for j := range columns(m) {
		n := len(f.pivots)
		i := rowOfEntry(f.rows, n, j)
		if i < 0 {
			continue
		}
		if i != n {
			f.rows[i], f.rows[n] = f.rows[n], f.rows[i]
			f.factor = -f.factor
		}
		f.factor = modp.Mod(p, f.factor*f.rows[n][j])
		f.clearColumn(p, n, j)
		f.pivots = append(f.pivots, j)
	}
	return f
}

// rowOfEntry returns the first row from n on with an entry other than 0 in column j, or
// -1 if there is none.
func rowOfEntry(m [][]int, n, j int) int {
	for i, x := range column(m[n:], j) {
		if x != 0 {
			return n + i
		}
	}
	return -1
}

// clearColumn makes the entry of row n in column j 1 and all other ones of that column 0.
func (f *form) clearColumn(p, n, j int) {
	k, _ := modp.Inv(p, f.rows[n][j]) // no error: the entry is not 0
	for i, x := range f.rows[n] {
		f.rows[n][i] = modp.Mod(p, k*x)
	}
	for i, x := range column(f.rows, j) {
		if i != n && x != 0 {
			add(p, f.rows[i], -x, f.rows[n])
		}
	}
}

// behind returns the rows with a pivot from column n on, without the columns before.
func (f *form) behind(n int) [][]int {
	var b [][]int
	for i, pivot := range f.pivots {
		if pivot >= n {
			b = append(b, f.rows[i][n:])
		}
	}
	return b
}
