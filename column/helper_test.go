package column_test

import (
	"math"
	"math/rand/v2"
	"slices"
	"strconv"
	"strings"
	"testing"

	"torus/api"
	"torus/column"
)

// somePrimes are small and large primes, the ends of the range among them.
var somePrimes = []int{2, 3, 5, 7, 13, 127, 241, 251}

// noPrimes are numbers that are no primes up to MaxPrime.
var noPrimes = []int{math.MinInt, -251, -7, -2, -1, 0, 1, 4, 9, 15, 249, 250, 252, 253, 255, 256, 257, 258, 65537, 1<<32 + 7, math.MaxInt}

// factors are numbers k for the prime p: residues, their neighbours, negative ones and both ends of int.
func factors(p int) []int {
	return []int{0, 1, 2, p - 2, p - 1, p, p + 1, 2*p - 1, 1000003, -1, -2, -p + 1, -p, -p - 1, -1000003, 1 << 62, math.MaxInt - 1, math.MaxInt, math.MinInt, math.MinInt + 1}
}

// mod is the residue of a, which may be any integer.
func mod(p, a int) int { return (a%p + p) % p }

// col is the list of terms with these rows and coefficients, which alternate.
func col(pairs ...int) []api.Term {
	var c []api.Term
	for i := 0; i < len(pairs); i += 2 {
		c = append(c, api.Term{Row: pairs[i], C: pairs[i+1]})
	}
	return c
}

// full is the column that has the coefficient x in each of the rows 0 to n - 1.
func full(n, x int) []api.Term {
	var c []api.Term
	for row := range n {
		c = append(c, api.Term{Row: row, C: x})
	}
	return c
}

// units are the columns with the coefficient 1 in one row, for the rows 0 to n - 1.
func units(n int) [][]api.Term {
	l := make([][]api.Term, n)
	for row := range l {
		l[row] = col(row, 1)
	}
	return l
}

// random returns a column over p with rows below n, in each of which it has a term in
// the given share of cases.
func random(r *rand.Rand, p, n int, share float64) []api.Term {
	var c []api.Term
	for row := range n {
		if r.Float64() < share {
			c = append(c, api.Term{Row: row, C: 1 + r.IntN(p-1)})
		}
	}
	return c
}

// randoms returns size columns.
func randoms(r *rand.Rand, p, size, n int, share float64) [][]api.Term {
	l := make([][]api.Term, size)
	for i := range l {
		l[i] = random(r, p, n, share)
	}
	return l
}

// text shows a list of terms, its beginning if it is long.
func text(c []api.Term) string {
	var s []string
	for i, t := range c {
		if i == 12 {
			s = append(s, "... ("+strconv.Itoa(len(c))+" terms)")
			break
		}
		s = append(s, strconv.Itoa(t.Row)+":"+strconv.Itoa(t.C))
	}
	return "(" + strings.Join(s, " ") + ")"
}

// texts shows a list of columns, its beginning if it is long.
func texts(l [][]api.Term) string {
	var s []string
	for i, c := range l {
		if i == 8 {
			s = append(s, "... ("+strconv.Itoa(len(l))+" columns)")
			break
		}
		s = append(s, text(c))
	}
	return "[" + strings.Join(s, " ") + "]"
}

// same reports whether two lists have the same columns.
func same(l, m [][]api.Term) bool {
	return slices.EqualFunc(l, m, slices.Equal[[]api.Term])
}

// copied returns a copy that shares no memory with l.
func copied(l [][]api.Term) [][]api.Term {
	m := make([][]api.Term, len(l))
	for i, c := range l {
		m[i] = slices.Clone(c)
	}
	return m
}

// valid reports whether c is a column over p (S2).
func valid(p int, c []api.Term) bool {
	for i, t := range c {
		if t.Row < 0 || t.Row >= api.MaxCells || t.C < 1 || t.C >= p || i > 0 && t.Row <= c[i-1].Row {
			return false
		}
	}
	return true
}

// A vector holds the entries of a column in all rows.
type vector [api.MaxCells]int

// vectorOf returns the vector for which c stands.
func vectorOf(c []api.Term) *vector {
	var v vector
	for _, t := range c {
		v[t.Row] = t.C
	}
	return &v
}

// sumOf returns the vector of the combination of l that x gives.
func sumOf(p int, l [][]api.Term, x []api.Term) *vector {
	var v vector
	for _, t := range x {
		for _, u := range l[t.Row] {
			v[u.Row] = (v[u.Row] + t.C*u.C) % p
		}
	}
	return &v
}

// plus returns the vector v + k w.
func plus(p int, v *vector, k int, w *vector) *vector {
	var s vector
	for row := range s {
		s[row] = (v[row] + mod(p, k)*w[row]) % p
	}
	return &s
}

// isVector checks that a result is the column over p that stands for v, without an error.
func isVector(t *testing.T, what string, p int, c []api.Term, e api.Errno, v *vector) {
	t.Helper()
	if e != api.OK || !valid(p, c) || *vectorOf(c) != *v {
		want, _ := column.Of(p, v[:])
		t.Errorf("%s over %d is %s, error %d; want %s", what, p, text(c), e, text(want))
	}
}

// is checks a result that is a list of terms.
func is(t *testing.T, what string, c []api.Term, e api.Errno, want []api.Term, wantError api.Errno) {
	t.Helper()
	if !slices.Equal(c, want) || e != wantError {
		t.Errorf("%s: %s, error %d; want %s, error %d", what, text(c), e, text(want), wantError)
	}
}

// must returns a result and fails the test if there is an error.
func must[T any](t *testing.T) func(x T, e api.Errno) T {
	return func(x T, e api.Errno) T {
		t.Helper()
		if e != api.OK {
			t.Fatalf("error %d; want none", e)
		}
		return x
	}
}
