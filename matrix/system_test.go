package matrix_test

import (
	"maps"
	"math/rand/v2"
	"slices"
	"testing"

	"torus/api"
	"torus/matrix"
)

// checkKernel checks the kernel of m: it is a basis matrix, m maps its rows to 0, and it
// has as many rows as the space of all such vectors has dimensions. That leaves one.
func checkKernel(t *testing.T, p int, m [][]int) [][]int {
	t.Helper()
	b, e := matrix.Kernel(p, m)
	if e != api.OK || !isBasis(p, b, width(m)) || len(b) != width(m)-rank(p, m) {
		t.Fatalf("the kernel of %s over %d: %s, error %d", texts(m), p, texts(b), e)
	}
	for _, x := range b {
		if !isZero(image(p, m, x)) {
			t.Errorf("the kernel of %s over %d contains %s", texts(m), p, text(x))
		}
	}
	return b
}

// checkImage checks the image of m: it is a basis matrix that spans the space of the columns.
func checkImage(t *testing.T, p int, m [][]int) [][]int {
	t.Helper()
	b, e := matrix.Image(p, m)
	if e != api.OK || !isBasis(p, b, len(m)) || !spans(p, b, turned(m)) {
		t.Fatalf("the image of %s over %d: %s, error %d", texts(m), p, texts(b), e)
	}
	return b
}

// P5.3: kernels and images of matrices of all kinds.
func TestKernelImage(t *testing.T) {
	r := rand.New(rand.NewPCG(8, 1))
	for _, p := range somePrimes {
		for _, m := range append(matrices(r, p), largeSquares(r, p)...) {
			checkKernel(t, p, m)
			checkImage(t, p, m)
		}
	}
	for _, c := range []struct{ m, kernel, image [][]int }{
		{nil, nil, nil}, {full(3, 0, 0), nil, nil}, {full(2, 3, 0), identity(3), nil}, {identity(3), nil, identity(3)}, {[][]int{{1, 1, 1}}, [][]int{{1, 0, 6}, {0, 1, 6}}, [][]int{{1}}},
		{[][]int{{0, 0, 3}}, [][]int{{1, 0, 0}, {0, 1, 0}}, [][]int{{1}}}, {[][]int{{0}, {2}, {3}}, nil, [][]int{{0, 1, 5}}}, {[][]int{{1, 2, 3}, {2, 4, 6}}, [][]int{{1, 0, 2}, {0, 1, 4}}, [][]int{{1, 2}}},
	} {
		k, e := matrix.Kernel(7, c.m)
		is(t, "the kernel of "+texts(c.m), k, e, c.kernel, api.OK)
		b, e := matrix.Image(7, c.m)
		is(t, "the image of "+texts(c.m), b, e, c.image, api.OK)
	}
}

// P5.3, P5.4: with few columns all vectors are tried.
func TestSystemsAll(t *testing.T) {
	r := rand.New(rand.NewPCG(8, 2))
	for _, s := range []struct{ p, n int }{{2, 5}, {3, 4}, {5, 3}, {7, 2}, {251, 1}} {
		for range 40 {
			m := random(r, s.p, 1+r.IntN(min(s.n, 3)), s.n, 0.6)
			kernel, images := map[string]bool{}, map[string]bool{}
			for _, x := range vectors(s.p, s.n) {
				v := image(s.p, m, x)
				images[text(v)] = true
				if isZero(v) {
					kernel[text(x)] = true
				}
			}
			if b := checkKernel(t, s.p, m); !maps.Equal(spanned(s.p, b, s.n), kernel) {
				t.Errorf("the kernel of %s over %d is not %s", texts(m), s.p, texts(b))
			}
			if b := checkImage(t, s.p, m); !maps.Equal(spanned(s.p, b, len(m)), images) {
				t.Errorf("the image of %s over %d is not %s", texts(m), s.p, texts(b))
			}
			for _, v := range vectors(s.p, len(m)) {
				if solved := checkSolve(t, s.p, m, v); solved != images[text(v)] {
					t.Errorf("there is a solution of %s for %s over %d: %v", texts(m), text(v), s.p, solved)
				}
			}
		}
	}
}

// checkSolve checks the solution of m x = v: it is one, is 0 beside the columns of pivots,
// which are those that the columns before do not span, and is missing only if there is none.
func checkSolve(t *testing.T, p int, m [][]int, v []int) (solved bool) {
	t.Helper()
	columns := turned(m)
	x, e := matrix.Solve(p, m, v)
	if n := rank(p, columns); rank(p, append(slices.Clip(columns), v)) > n {
		isRow(t, "the solution of "+texts(m)+" for "+text(v), x, e, nil, api.ErrNone)
		return false
	}
	if e != api.OK || len(x) != width(m) || outside(p, x) != api.OK || !slices.Equal(image(p, m, x), v) {
		t.Fatalf("the solution of %s for %s over %d: %s, error %d", texts(m), text(v), p, text(x), e)
	}
	for j := range x {
		if x[j] != 0 && rank(p, columns[:j]) == rank(p, columns[:j+1]) {
			t.Errorf("the solution of %s for %s over %d is %s, but %d is not the column of a pivot", texts(m), text(v), p, text(x), j)
		}
	}
	return true
}

// P5.4: systems with one solution, with several and with none, of all kinds.
func TestSolve(t *testing.T) {
	r := rand.New(rand.NewPCG(8, 3))
	for _, p := range somePrimes {
		for i, m := range append(matrices(r, p), random(r, p, api.MaxRows, api.MaxRows, 1)) {
			if len(m)*width(m) > 1000 && i%3 != 0 {
				continue // the check is slow
			}
			checkSolve(t, p, m, make([]int, len(m)))
			checkSolve(t, p, m, random(r, p, 1, len(m), 0.9)[0])
			checkSolve(t, p, m, random(r, p, 1, len(m), 0.2)[0])
			if !checkSolve(t, p, m, image(p, m, random(r, p, 1, width(m), 0.8)[0])) {
				t.Errorf("no solution of %s over %d for a vector of its image", texts(m), p)
			}
		}
	}
	for _, c := range []struct {
		m       [][]int
		v, want []int
		e       api.Errno
	}{
		{nil, nil, nil, api.OK}, {full(2, 0, 0), []int{0, 0}, nil, api.OK}, {full(2, 0, 0), []int{0, 1}, nil, api.ErrNone}, {full(2, 3, 0), []int{0, 0}, []int{0, 0, 0}, api.OK}, {full(2, 3, 0), []int{1, 0}, nil, api.ErrNone},
		{[][]int{{0, 2, 4}}, []int{6}, []int{0, 3, 0}, api.OK}, {[][]int{{0, 2, 4}, {0, 1, 2}}, []int{6, 3}, []int{0, 3, 0}, api.OK}, {[][]int{{0, 2, 4}, {0, 1, 2}}, []int{6, 2}, nil, api.ErrNone},
		{identity(3), []int{4, 0, 6}, []int{4, 0, 6}, api.OK}, {[][]int{{1, 1, 0, 1}, {0, 0, 1, 1}}, []int{5, 6}, []int{5, 0, 6, 0}, api.OK}, {[][]int{{1}, {2}}, []int{3, 6}, []int{3}, api.OK},
	} {
		x, e := matrix.Solve(7, c.m, c.v)
		isRow(t, "the solution of "+texts(c.m)+" for "+text(c.v), x, e, c.want, c.e)
	}
}

// P5.4, P5.8: with a regular matrix there is one solution, the product of the inverse.
func TestSolveRegular(t *testing.T) {
	r := rand.New(rand.NewPCG(8, 4))
	for _, p := range somePrimes {
		for _, n := range []int{1, 2, 5, 20, api.MaxRows} {
			m, x := regular(r, p, n), random(r, p, 1, n, 0.9)[0]
			v := image(p, m, x)
			got, e := matrix.Solve(p, m, v)
			isRow(t, "the solution", got, e, x, api.OK)
			isRow(t, "the product with the inverse", image(p, must[[][]int](t)(matrix.Invert(p, m)), v), api.OK, x, api.OK)
		}
	}
}
