package matrix

import "torus/modp"

// hessenberg returns a matrix with the characteristic polynomial of the square matrix m
// in which all entries left of those just below the diagonal are 0.
func hessenberg(p int, m [][]int) [][]int {
	h := widened(m, 0)
	for n := 1; n < len(h)-1; n++ {
		j := n - 1
		i := rowOfEntry(h, n, j)
		if i < 0 {
			continue
		}
		swap(h, i, n)
		k, _ := modp.Inv(p, h[n][j]) // no error: the entry is not 0
		for i, x := range column(h, j) {
			if i > n && x != 0 {
				conjugate(p, h, i, modp.Mod(p, k*x), n)
			}
		}
	}
	return h
}

// swap exchanges the rows i and j and the columns i and j.
func swap(m [][]int, i, j int) {
	m[i], m[j] = m[j], m[i]
	for _, row := range m {
		row[i], row[j] = row[j], row[i]
	}
}

// conjugate subtracts k times row j from row i, which multiplies m by a matrix from the
// left, and adds k times column i to column j, which multiplies it by the inverse from
// the right: so the characteristic polynomial remains.
func conjugate(p int, m [][]int, i, k, j int) {
	add(p, m[i], -k, m[j])
	for n, x := range column(m, i) {
		m[n][j] = modp.Mod(p, m[n][j]+k*x)
	}
}

// charpoly returns the characteristic polynomial of a matrix as hessenberg returns it.
func charpoly(p int, h [][]int) []int {
	polys := [][]int{{1}} // that of the first n rows and columns, for each n
	for n := range len(h) {
		// The determinant is expanded along the last column: below the row of the entry
		// that is taken, only the entries just below the diagonal are left to be taken.
		next := append([]int{0}, polys[n]...)
		below := 1
		for i := n; i >= 0; i-- {
			add(p, next, -modp.Mod(p, h[i][n]*below), polys[i])
			if i > 0 {
				below = modp.Mod(p, below*h[i][i-1])
			}
		}
		polys = append(polys, next)
	}
	return polys[len(h)]
}
