package column_test

import (
	"maps"
	"math/rand/v2"
	"slices"
	"testing"

	"torus/api"
	"torus/column"
)

// reduced reports whether l is a reduced list of columns over p, by the definition.
func reduced(p int, l [][]api.Term) bool {
	for i, c := range l {
		if !valid(p, c) || len(c) == 0 || c[len(c)-1].C != 1 {
			return false
		}
		low := c[len(c)-1].Row
		if i > 0 && low <= l[i-1][len(l[i-1])-1].Row {
			return false
		}
		for j, b := range l {
			if j != i && vectorOf(b)[low] != 0 {
				return false
			}
		}
	}
	return true
}

// rank is the dimension of the space that l spans, by elimination from the first row on
// among the vectors of the columns: not the way of the package.
func rank(p int, l [][]api.Term) int {
	vs := make([]*vector, len(l))
	for i, c := range l {
		vs[i] = vectorOf(c)
	}
	n := 0
	for row := range api.MaxCells {
		i := slices.IndexFunc(vs[n:], func(v *vector) bool { return v[row] != 0 })
		if i < 0 {
			continue
		}
		vs[n], vs[n+i] = vs[n+i], vs[n]
		inverse := 1
		for vs[n][row]*inverse%p != 1 {
			inverse++
		}
		for j := n + 1; j < len(vs); j++ {
			if vs[j][row] != 0 {
				vs[j] = plus(p, vs[j], -vs[j][row]*inverse, vs[n])
			}
		}
		n++
	}
	return n
}

// lists are lists of columns over p: empty ones, independent ones and others, with empty
// columns, with a low row twice and with equal columns.
func lists(r *rand.Rand, p int) [][][]api.Term {
	a, b, c := random(r, p, 9, 0.7), col(2, 1, 5, p-1), col(0, p-1, 5, 1)
	two, _ := column.Scale(p, b, 2)
	l := [][][]api.Term{
		nil, {nil}, {nil, nil, nil}, {b}, {b, c}, {c, b}, {b, b}, {b, b, b, b}, {b, two}, {b, nil, c, nil, b}, {a, b, c, a, b, c},
		units(5), {full(3, 1), full(2, 1), full(1, 1)}, {full(api.MaxCells, p-1), full(api.MaxCells, 1)}, {col(api.MaxCells-1, 1), col(0, 1), col(api.MaxCells-1, p-1)},
		independent(r, p, 6, 9, 0.5),
	}
	for range 12 {
		l = append(l, randoms(r, p, 1+r.IntN(7), 1+r.IntN(7), 0.5))
	}
	for _, s := range []struct{ size, n int }{{10, 10}, {30, 12}, {12, 30}, {20, 20}} {
		l = append(l, randoms(r, p, s.size, s.n, 0.8), randoms(r, p, s.size, s.n, 0.15))
	}
	some := randoms(r, p, 5, 40, 0.6) // and a list of columns of a small space
	var mixed [][]api.Term
	for range 20 {
		m, _ := column.Combine(p, some, random(r, p, 5, 0.6))
		mixed = append(mixed, m)
	}
	return append(l, mixed)
}

// checkBasis checks the basis and the rank of l: the basis is reduced and spans the same
// space. As the chapter says, that leaves one result.
func checkBasis(t *testing.T, p int, l [][]api.Term) [][]api.Term {
	t.Helper()
	b, e := column.Basis(p, l)
	if e != api.OK || !reduced(p, b) {
		t.Fatalf("the basis of %s over %d: %s, error %d, is not reduced", texts(l), p, texts(b), e)
	}
	n := rank(p, l)
	if both := slices.Concat(l, b); len(b) != n || rank(p, both) != n {
		t.Errorf("the basis of %s over %d is %s, which spans another space", texts(l), p, texts(b))
	}
	if k, e := column.Rank(p, l); k != n || e != api.OK {
		t.Errorf("the rank of %s over %d is %d, error %d; want %d", texts(l), p, k, e, n)
	}
	return b
}

// checkKernel checks the kernel of l: it is reduced, its combinations are 0, and it has
// as many columns as the space of all of them has dimensions (P4.9).
func checkKernel(t *testing.T, p int, l [][]api.Term) [][]api.Term {
	t.Helper()
	x, e := column.Kernel(p, l)
	if e != api.OK || !reduced(p, x) {
		t.Fatalf("the kernel of %s over %d: %s, error %d, is not reduced", texts(l), p, texts(x), e)
	}
	for _, c := range x {
		if c[len(c)-1].Row >= len(l) || *sumOf(p, l, c) != (vector{}) {
			t.Errorf("the kernel of %s over %d contains %s", texts(l), p, text(c))
		}
	}
	if n := len(l) - rank(p, l); len(x) != n {
		t.Errorf("the kernel of %s over %d is %s; want %d columns", texts(l), p, texts(x), n)
	}
	return x
}

// P4.5, P4.9: basis, rank and kernel of lists of all kinds.
func TestBasisKernel(t *testing.T) {
	r := rand.New(rand.NewPCG(4, 1))
	for _, p := range somePrimes {
		for _, l := range lists(r, p) {
			b, x := checkBasis(t, p, l), checkKernel(t, p, l)
			if len(b)+len(x) != len(l) {
				t.Errorf("%s over %d has the rank %d and a kernel of %d columns", texts(l), p, len(b), len(x))
			}
		}
	}
}

// P4.5: with few rows and columns the spaces are compared element by element.
func TestBasisKernelAll(t *testing.T) {
	r := rand.New(rand.NewPCG(4, 2))
	for _, s := range []struct{ p, n int }{{2, 5}, {3, 4}, {5, 3}} {
		for range 40 {
			l := randoms(r, s.p, r.IntN(5), s.n, 0.5)
			if got := spanned(s.p, checkBasis(t, s.p, l)); !maps.Equal(got, spanned(s.p, l)) {
				t.Errorf("the basis of %s over %d does not span its space", texts(l), s.p)
			}
			zero := map[vector]bool{}
			for _, x := range everything(s.p, len(l)) {
				if *sumOf(s.p, l, x) == (vector{}) {
					zero[*vectorOf(x)] = true
				}
			}
			if got := spanned(s.p, checkKernel(t, s.p, l)); !maps.Equal(got, zero) {
				t.Errorf("the kernel of %s over %d does not span what is 0", texts(l), s.p)
			}
		}
	}
}

// P4.5: lists with MaxCells columns.
func TestBasisKernelLongest(t *testing.T) {
	const n = api.MaxCells
	for _, p := range []int{2, 251} {
		twice := append(units(n/2), units(n/2)...) // each element of the kernel has two rows
		equal := make([][]api.Term, n)
		stairs := make([][]api.Term, n)
		var pairs, heads [][]api.Term
		for i := range n {
			equal[i] = full(n, p-1)
			stairs[n-1-i] = full(i+1, p-1)
			if i > 0 {
				heads = append(heads, col(0, p-1, i, 1))
			}
			if i >= n/2 {
				pairs = append(pairs, col(i-n/2, p-1, i, 1))
			}
		}
		for _, c := range []struct {
			name             string
			l, basis, kernel [][]api.Term
		}{
			{"units", units(n), units(n), nil},
			{"stairs", stairs, units(n), nil},
			{"units twice", twice, units(n / 2), pairs},
			{"equal columns", equal, [][]api.Term{full(n, 1)}, heads},
			{"empty columns", make([][]api.Term, n), nil, units(n)},
		} {
			b, e := column.Basis(p, c.l)
			if !same(b, c.basis) || e != api.OK {
				t.Errorf("the basis of %s over %d is %s, error %d", c.name, p, texts(b), e)
			}
			k, e := column.Rank(p, c.l)
			if k != len(c.basis) || e != api.OK {
				t.Errorf("the rank of %s over %d is %d, error %d", c.name, p, k, e)
			}
			x, e := column.Kernel(p, c.l)
			if !same(x, c.kernel) || e != api.OK {
				t.Errorf("the kernel of %s over %d is %s, error %d", c.name, p, texts(x), e)
			}
		}
	}
}

// P4.5, R7: MaxCells random columns with MaxCells rows have greater sums than any others.
func TestBasisKernelFull(t *testing.T) {
	r := rand.New(rand.NewPCG(4, 3))
	for _, p := range []int{2, 251} {
		l := randoms(r, p, api.MaxCells-24, api.MaxCells, 1)
		if p == 2 {
			l = randoms(r, p, api.MaxCells-24, api.MaxCells, 0.5)
		}
		for range 24 {
			c, _ := column.Combine(p, l, random(r, p, len(l), 1))
			l = append(l, c)
		}
		b, e := column.Basis(p, l)
		x, e2 := column.Kernel(p, l)
		if max(e, e2) != api.OK || len(b)+len(x) != len(l) || len(x) < 24 {
			t.Fatalf("over %d a basis of %d and a kernel of %d columns, errors %d, %d", p, len(b), len(x), e, e2)
		}
		for _, c := range x[len(x)-3:] {
			if *sumOf(p, l, c) != (vector{}) {
				t.Errorf("over %d a combination of the kernel is not 0", p)
			}
		}
		for i := 0; i < len(l); i += 97 {
			if rest, _, e := column.Rest(p, b, l[i]); len(rest) > 0 || e != api.OK {
				t.Errorf("over %d column %d is no combination of the basis, error %d", p, i, e)
			}
		}
	}
}

// P4.8: every column of a list is a combination of its basis, and the other way round.
func TestBasisSpace(t *testing.T) {
	r := rand.New(rand.NewPCG(4, 4))
	for _, p := range somePrimes {
		for _, l := range lists(r, p) {
			b, _ := column.Basis(p, l)
			for _, c := range l {
				if rest, _, e := column.Rest(p, b, c); len(rest) > 0 || e != api.OK {
					t.Errorf("%s over %d is no combination of the basis %s, error %d", text(c), p, texts(b), e)
				}
			}
			for _, c := range b {
				x, e := column.Kernel(p, append(slices.Clone(l), c))
				if e != api.OK || len(x) == 0 || x[len(x)-1][len(x[len(x)-1])-1].Row != len(l) {
					t.Errorf("%s over %d is no combination of %s, error %d", text(c), p, texts(l), e)
				}
			}
			again, e := column.Basis(p, b)
			if !same(again, b) || e != api.OK {
				t.Errorf("over %d the basis of %s is %s, error %d", p, texts(b), texts(again), e)
			}
		}
	}
}

// P4.8: the basis does not depend on the order of the columns or on factors other than 0.
func TestBasisOrder(t *testing.T) {
	r := rand.New(rand.NewPCG(4, 5))
	for _, p := range somePrimes {
		for _, l := range lists(r, p) {
			want, _ := column.Basis(p, l)
			for range 3 {
				m := copied(l)
				r.Shuffle(len(m), func(i, j int) { m[i], m[j] = m[j], m[i] })
				for i := range m {
					m[i], _ = column.Scale(p, m[i], 1+r.IntN(p-1)-p*r.IntN(2))
				}
				if b, e := column.Basis(p, m); !same(b, want) || e != api.OK {
					t.Errorf("over %d the basis of %s is %s, error %d; that of %s is %s", p, texts(m), texts(b), e, texts(l), texts(want))
				}
			}
		}
	}
}
