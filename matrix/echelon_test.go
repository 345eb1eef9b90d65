package matrix_test

import (
	"maps"
	"math/rand/v2"
	"testing"

	"torus/api"
	"torus/matrix"
)

// checkEchelon checks the echelon form and the rank of m: the form has the size of m, is
// one by the definition and spans the same space. As the chapter says, that leaves one.
func checkEchelon(t *testing.T, p int, m [][]int) [][]int {
	t.Helper()
	f, e := matrix.Echelon(p, m)
	if e != api.OK || !isEchelon(p, f, len(m), width(m)) || !spans(p, m, f) {
		t.Fatalf("the echelon form of %s over %d: %s, error %d", texts(m), p, texts(f), e)
	}
	n, e := matrix.Rank(p, m)
	isNumber(t, "the rank of "+texts(m), n, e, rank(p, m), api.OK)
	return f
}

// P5.2: echelon forms and ranks of matrices of all kinds; an echelon form is its own.
func TestEchelon(t *testing.T) {
	r := rand.New(rand.NewPCG(6, 1))
	for _, p := range somePrimes {
		for _, m := range append(matrices(r, p), largeSquares(r, p)...) {
			f := checkEchelon(t, p, m)
			again, e := matrix.Echelon(p, f)
			is(t, "the echelon form of an echelon form", again, e, f, api.OK)
		}
	}
	for _, c := range []struct {
		p       int
		m, want [][]int
	}{
		{7, nil, nil}, {7, full(3, 0, 0), full(3, 0, 0)}, {7, full(2, 3, 0), full(2, 3, 0)}, {7, [][]int{{0, 3, 1}}, [][]int{{0, 1, 5}}}, {7, [][]int{{0}, {4}, {0}}, [][]int{{1}, {0}, {0}}},
		{2, [][]int{{1, 1, 0}, {0, 1, 1}, {1, 0, 1}}, [][]int{{1, 0, 1}, {0, 1, 1}, {0, 0, 0}}}, {3, [][]int{{1, 1, 0}, {0, 1, 1}, {1, 0, 1}}, identity(3)},
		{251, [][]int{{0, 250, 1, 7}, {0, 0, 0, 250}}, [][]int{{0, 1, 250, 0}, {0, 0, 0, 1}}}, {7, full(3, 2, 6), [][]int{{1, 1}, {0, 0}, {0, 0}}},
	} {
		f, e := matrix.Echelon(c.p, c.m)
		is(t, "the echelon form of "+texts(c.m), f, e, c.want, api.OK)
	}
}

// P5.2: with few rows and columns all matrices are tried, and their spaces are compared
// element by element.
func TestEchelonAll(t *testing.T) {
	for _, s := range []struct{ p, n, k int }{{2, 3, 3}, {2, 2, 4}, {3, 2, 2}, {3, 2, 3}, {5, 2, 2}, {5, 1, 3}, {2, 4, 2}} {
		for _, v := range vectors(s.p, s.n*s.k) {
			m := make([][]int, s.n)
			for i := range m {
				m[i] = v[i*s.k : (i+1)*s.k]
			}
			f := checkEchelon(t, s.p, m)
			if !maps.Equal(spanned(s.p, m, s.k), spanned(s.p, f, s.k)) {
				t.Errorf("over %d the echelon form of %s is %s, with another space", s.p, texts(m), texts(f))
			}
		}
	}
}

// P5.2: matrices with one row space have one echelon form, whatever their rows are.
func TestEchelonSpace(t *testing.T) {
	r := rand.New(rand.NewPCG(6, 2))
	for _, p := range somePrimes {
		for _, m := range matrices(r, p) {
			want := must[[][]int](t)(matrix.Echelon(p, m))
			f, e := matrix.Echelon(p, times(p, regular(r, p, max(1, len(m)))[:len(m)], m, width(m)))
			is(t, "the echelon form of other rows with the space of "+texts(m), f, e, want, api.OK)
		}
	}
}

// P5.6: ranks, those of the transpose, the kernel and the image.
func TestRanks(t *testing.T) {
	r := rand.New(rand.NewPCG(6, 3))
	for _, p := range somePrimes {
		for _, m := range matrices(r, p) {
			must := must[[][]int](t)
			n, e := matrix.Rank(p, m)
			turned, e2 := matrix.Rank(p, must(matrix.Transpose(p, m)))
			kernel, image := must(matrix.Kernel(p, m)), must(matrix.Image(p, m))
			if max(e, e2) != api.OK || turned != n || len(kernel)+n != width(m) || len(image) != n {
				t.Errorf("over %d %s has the rank %d, its transpose %d, its kernel %d rows and its image %d", p, texts(m), n, turned, len(kernel), len(image))
			}
		}
		for _, s := range []struct{ n, k int }{{1, 1}, {3, 5}, {6, 4}, {api.MaxRows, 20}, {30, api.MaxRows}, {api.MaxRows, api.MaxRows}} {
			for _, want := range []int{0, 1, min(s.n, s.k) / 2, min(s.n, s.k) - 1, min(s.n, s.k)} {
				n, e := matrix.Rank(p, ofRank(r, p, s.n, s.k, want))
				isNumber(t, "the rank", n, e, want, api.OK)
			}
		}
	}
}
