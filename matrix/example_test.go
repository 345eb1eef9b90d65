package matrix_test

import (
	"testing"

	"torus/api"
	"torus/matrix"
)

// The chapter's examples.
func TestExamples(t *testing.T) {
	m := [][]int{{1, 2}, {3, 4}}
	x, e := matrix.Det(5, m)
	isNumber(t, "the determinant", x, e, 3, api.OK)
	c, e := matrix.Charpoly(5, m)
	isRow(t, "the characteristic polynomial", c, e, []int{3, 0, 1}, api.OK)
	i, e := matrix.Invert(5, m)
	is(t, "the inverse", i, e, [][]int{{3, 1}, {4, 2}}, api.OK)

	m = [][]int{{1, 2}, {2, 4}}
	f, e := matrix.Echelon(5, m)
	is(t, "the echelon form", f, e, [][]int{{1, 2}, {0, 0}}, api.OK)
	x, e = matrix.Rank(5, m)
	isNumber(t, "the rank", x, e, 1, api.OK)
	k, e := matrix.Kernel(5, m)
	is(t, "the kernel", k, e, [][]int{{1, 2}}, api.OK)
	b, e := matrix.Image(5, m)
	is(t, "the image", b, e, [][]int{{1, 2}}, api.OK)
	v, e := matrix.Solve(5, m, []int{3, 1})
	isRow(t, "the solution for 3, 1", v, e, []int{3, 0}, api.OK)
	v, e = matrix.Solve(5, m, []int{1, 1})
	isRow(t, "the solution for 1, 1", v, e, nil, api.ErrNone)

	s, e := matrix.Sum(5, [][]int{{1, 0, 0}}, [][]int{{0, 1, 1}})
	is(t, "the sum", s, e, [][]int{{1, 0, 0}, {0, 1, 1}}, api.OK)
	s, e = matrix.Meet(5, s, [][]int{{1, 1, 1}, {0, 0, 1}})
	is(t, "the intersection", s, e, [][]int{{1, 1, 1}}, api.OK)
}
