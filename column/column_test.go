package column_test

import (
	"math"
	"math/rand/v2"
	"slices"
	"testing"

	"torus/api"
	"torus/column"
)

// P4.1: Check accepts the columns of S2, without terms and with MaxCells terms among them.
func TestCheck(t *testing.T) {
	for _, p := range somePrimes {
		for _, c := range [][]api.Term{nil, {}, col(0, 1), col(0, p-1), col(api.MaxCells-1, 1), col(0, 1, api.MaxCells-1, p-1), col(3, 1, 4, p-1, 9, 1), full(api.MaxCells, 1), full(api.MaxCells, p-1)} {
			if e := column.Check(p, c); e != api.OK {
				t.Errorf("Check of %s over %d: error %d; want none", text(c), p, e)
			}
		}
	}
}

// P4.1: Check accepts just the primes of S2.
func TestCheckPrimes(t *testing.T) {
	for p := -300; p <= 300; p++ {
		prime := p >= 2 && p <= api.MaxPrime
		for d := 2; prime && d < p; d++ {
			prime = p%d != 0
		}
		if e := column.Check(p, nil); (e == api.OK) != prime {
			t.Errorf("Check over %d: error %d", p, e)
		}
	}
}

// P4.1: Of returns the column of the residues, of negative numbers and the ends of int, too.
func TestOf(t *testing.T) {
	r := rand.New(rand.NewPCG(1, 1))
	for _, p := range somePrimes {
		long := make([]int, api.MaxCells)
		for i := range long {
			long[i] = r.IntN(5*p) - 2*p
		}
		ends := make([]int, api.MaxCells)
		ends[0], ends[api.MaxCells-1] = math.MinInt, math.MaxInt
		for _, v := range [][]int{nil, {}, {0}, {p}, {1}, {-1}, {0, 0, 0, 2*p - 1}, {-p, -p - 1, -p + 1}, factors(p), make([]int, api.MaxCells), long, long[:api.MaxCells-1], ends} {
			var want vector
			for i, a := range v {
				want[i] = mod(p, a)
			}
			c, e := column.Of(p, v)
			isVector(t, "Of of the residues", p, c, e, &want)
		}
	}
}

// P4.1: Dense returns the entries in the rows 0 to n - 1, up to the low row at least and
// up to MaxCells at most.
func TestDense(t *testing.T) {
	r := rand.New(rand.NewPCG(1, 2))
	for _, p := range somePrimes {
		for _, c := range [][]api.Term{nil, col(0, p-1), col(7, 1), col(api.MaxCells-1, 1), full(api.MaxCells, p-1), random(r, p, 40, 0.5), random(r, p, 900, 0.1)} {
			low := -1
			if len(c) > 0 {
				low = c[len(c)-1].Row
			}
			for _, n := range []int{low + 1, (low + 1 + api.MaxCells) / 2, api.MaxCells} {
				v, e := column.Dense(p, c, n)
				if want := vectorOf(c); e != api.OK || !slices.Equal(v, want[:n]) {
					t.Errorf("Dense of %s over %d with n = %d: %v, error %d", text(c), p, n, v, e)
				}
				back, e := column.Of(p, v)
				is(t, "Of the entries of "+text(c), back, e, c, api.OK)
			}
		}
	}
}

// notColumns are lists of terms that are columns over no prime.
var notColumns = [][]api.Term{
	col(5, 7, 3, 9), col(9, 1, 9, 2), col(4, 0), col(4, 0, 4, 3), col(-3, 8), col(2, 1, -3, 8), col(api.MaxCells, 1), col(1, -5, 2, 300),
	col(math.MinInt, math.MaxInt, math.MaxInt, math.MinInt), col(7, 1, 7, 2, 0, 3, 7, 4), col(3, 1, 2, 1, 1, 1, 0, 1, 2, 9),
}

// P4.2: Low returns the row of the last term of any list of terms.
func TestLow(t *testing.T) {
	for _, c := range [][]api.Term{nil, {}} {
		if row, ok := column.Low(c); row != 0 || ok {
			t.Errorf("Low of an empty list: %d, %v; want 0, false", row, ok)
		}
	}
	for _, c := range append(slices.Clone(notColumns), col(0, 1), col(2, 1, 1023, 1), full(api.MaxCells, 1)) {
		want := c[len(c)-1].Row
		if row, ok := column.Low(c); row != want || !ok {
			t.Errorf("Low of %s: %d, %v; want %d, true", text(c), row, ok, want)
		}
	}
}

// P4.2: Coef returns the coefficient of the first term with the row in any list of
// terms, and 0 if there is none.
func TestCoef(t *testing.T) {
	r := rand.New(rand.NewPCG(1, 3))
	for _, c := range append(slices.Clone(notColumns), nil, col(0, 1), col(2, 1, 1023, 1), full(api.MaxCells, 1), random(r, 251, 50, 0.5)) {
		first := map[int]int{}
		for _, term := range slices.Backward(c) {
			first[term.Row] = term.C
		}
		rows := []int{math.MinInt, -3, -1, api.MaxCells, math.MaxInt}
		for row := range 60 {
			rows = append(rows, row)
		}
		for _, row := range append(rows, api.MaxCells-1) {
			if x := column.Coef(c, row); x != first[row] {
				t.Errorf("Coef of %s in row %d is %d; want %d", text(c), row, x, first[row])
			}
		}
	}
}
