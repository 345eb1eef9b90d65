package column_test

import (
	"math"
	"math/rand/v2"
	"slices"
	"testing"

	"torus/api"
	"torus/column"
)

// check calls f and checks its error, and that it has no other result then (R1).
func (f call) check(t *testing.T, x args) {
	t.Helper()
	r, want := f.do(x), f.want(x)
	if r.e != want || r.e != api.OK && (!r.empty() || len(r.cols) > 2) {
		t.Errorf("%s with p = %d, l = %s, a = %s, b = %s, k = %d, %d numbers: %s, %v, error %d; want error %d",
			f.name, x.p, texts(x.l), text(x.a), text(x.b), x.k, len(x.v), texts(r.cols), r.numbers, r.e, want)
	}
}

// wrongTerms are lists of terms that are no columns over p, with the error of each:
// that of the first term with an error counts, and ErrArg ahead of ErrOrder in one term.
func wrongTerms(p int) map[api.Errno][][]api.Term {
	return map[api.Errno][][]api.Term{
		api.ErrArg: {
			col(0, 0), col(0, p), col(0, -1), col(0, p+1), col(0, -p), col(0, math.MinInt), col(0, math.MaxInt), col(-1, 1), col(api.MaxCells, 1), col(math.MinInt, 1), col(math.MaxInt, 1),
			col(0, 1, 1, 0), col(0, 1, 1, p), col(0, 1, api.MaxCells, 1), col(5, 1, -1, 1), col(5, 1, 5, 0), col(5, 1, 4, p), col(5, 1, 4, -1), col(3, 0, 2, 1), col(3, p, 3, p),
			append(full(api.MaxCells, 1), api.Term{Row: api.MaxCells, C: 1}), append(full(api.MaxCells-1, 1), api.Term{Row: api.MaxCells - 1, C: p}),
			col(1, 1, -1, 1, 0, 1),
		},
		api.ErrOrder: {
			col(0, 1, 0, 1), col(1, 1, 0, 1), col(5, 1, 5, p-1), col(0, 1, 3, 1, 2, 1), col(0, 1, 3, 1, 3, 1), col(api.MaxCells-1, 1, 0, 1), col(0, 1, 0, 1, 1, 0), col(4, 1, 3, 1, -1, p),
			append(full(api.MaxCells, 1), api.Term{Row: api.MaxCells - 1, C: 1}), append(full(api.MaxCells, 1), full(api.MaxCells, 1)...),
		},
	}
}

// The table of errors: what is no column is refused by each function, wherever it stands.
func TestErrTerms(t *testing.T) {
	good := col(0, 1, 3, 1)
	for _, p := range somePrimes {
		for want, cs := range wrongTerms(p) {
			for _, c := range cs {
				if e := column.Check(p, c); e != want {
					t.Errorf("Check of %s over %d: error %d; want %d", text(c), p, e, want)
				}
				for _, f := range calls() {
					f.check(t, args{p: p, l: [][]api.Term{good}, a: c, b: good, k: 1})
					f.check(t, args{p: p, l: [][]api.Term{good}, a: good, b: c, k: 1})
					f.check(t, args{p: p, l: [][]api.Term{col(1, 1), col(2, 1), c, good}, a: col(0, 1), k: 1})
					f.check(t, args{p: p, l: [][]api.Term{c}, k: 1})
				}
			}
		}
	}
}

// The table of errors: numbers that are no primes, also with empty lists and columns, and
// ahead of terms that are wrong, but not of lists that are too long.
func TestErrPrime(t *testing.T) {
	long := make([][]api.Term, api.MaxCells+1)
	for _, p := range append(slices.Clone(noPrimes), 7) {
		for _, f := range calls() {
			for _, c := range [][]api.Term{nil, col(0, 1), col(0, 0), col(1, 1, 0, 1)} {
				for _, l := range [][][]api.Term{nil, {nil}, {col(0, 1)}, {c, c}, long} {
					f.check(t, args{p: p, l: l, a: c, b: c, k: 1})
					f.check(t, args{p: p, l: l, a: nil, b: c, k: -1, v: make([]int, api.MaxCells+1)})
				}
			}
		}
	}
}

// The table of errors: lists of MaxCells columns and numbers are taken, and of one more
// are not, whatever they contain.
func TestErrLong(t *testing.T) {
	for _, p := range []int{7, 251, 6} {
		for n := api.MaxCells - 1; n <= api.MaxCells+1; n++ {
			zero, bad := make([][]api.Term, n), make([][]api.Term, n)
			bad[0] = col(0, 0)
			for _, l := range [][][]api.Term{zero, bad, append(units(n-1), col(0, 1)), units(n), make([][]api.Term, 3*n)} {
				for _, a := range [][]api.Term{nil, col(0, 1), col(0, 0), col(1, 1, 0, 1)} {
					for _, f := range calls() {
						f.check(t, args{p: p, l: l, a: a, v: make([]int, n)})
					}
				}
			}
		}
	}
}

// The table of errors: Dense with numbers of rows that are negative, too great, or not
// greater than the low row.
func TestErrShapeDense(t *testing.T) {
	for _, c := range [][]api.Term{nil, col(0, 1), col(5, 1), col(2, 3, 5, 1), col(api.MaxCells-1, 1), full(api.MaxCells, 1), col(5, 0), col(5, 1, 5, 1)} {
		for _, n := range []int{math.MinInt, -1, 0, 1, 4, 5, 6, api.MaxCells - 1, api.MaxCells, api.MaxCells + 1, math.MaxInt} {
			for _, f := range calls() {
				if f.name == "Dense" {
					f.check(t, args{p: 7, a: c, k: n})
				}
			}
		}
	}
	for _, x := range []struct {
		c    []api.Term
		n    int
		want api.Errno
	}{
		{nil, -1, api.ErrShape}, {nil, 0, api.OK}, {nil, 1025, api.ErrShape}, {col(5, 1), 5, api.ErrShape}, {col(5, 1), 6, api.OK},
		{col(1023, 1), 1023, api.ErrShape}, {col(1023, 1), 1024, api.OK}, {col(5, 7), -1, api.ErrArg}, {col(5, 1, 5, 1), 0, api.ErrOrder},
	} {
		v, e := column.Dense(7, x.c, x.n)
		if e != x.want || e != api.OK && len(v) > 0 {
			t.Errorf("Dense of %s with n = %d: %v, error %d; want error %d", text(x.c), x.n, v, e, x.want)
		}
	}
}

// The table of errors: Combine with a row that is no index of the list, behind those of
// the columns and of x.
func TestErrShapeCombine(t *testing.T) {
	a := col(0, 1, 3, 1)
	for _, x := range []struct {
		l    [][]api.Term
		x    []api.Term
		want api.Errno
	}{
		{nil, nil, api.OK}, {nil, col(0, 1), api.ErrShape}, {[][]api.Term{a, a}, col(1, 1), api.OK}, {[][]api.Term{a, a}, col(2, 1), api.ErrShape}, {[][]api.Term{a, a}, col(0, 1, 1023, 1), api.ErrShape},
		{units(api.MaxCells), col(1023, 1), api.OK}, {units(api.MaxCells - 1), col(1023, 1), api.ErrShape},
		{[][]api.Term{a, a}, col(2, 7), api.ErrArg}, {[][]api.Term{a, a}, col(2, 1, 2, 1), api.ErrOrder}, {[][]api.Term{a, col(0, 0)}, col(2, 1, 2, 1), api.ErrArg}, {[][]api.Term{a, col(1, 1, 0, 1)}, col(2, 7), api.ErrOrder},
		{make([][]api.Term, api.MaxCells+1), col(0, 7), api.ErrLong},
	} {
		c, e := column.Combine(7, x.l, x.x)
		if e != x.want || e != api.OK && len(c) > 0 {
			t.Errorf("Combine of %s by %s: %s, error %d; want error %d", texts(x.l), text(x.x), text(c), e, x.want)
		}
	}
}

// The table of errors: Rest by a list with an empty column or a low row twice, the first
// such column of the list first, behind those of the columns and of c.
func TestErrLows(t *testing.T) {
	a, b, top := col(0, 1, 3, 1), col(3, 2), full(api.MaxCells, 1)
	bad, order := col(0, 0), col(1, 1, 0, 1)
	for _, x := range []struct {
		l    [][]api.Term
		c    []api.Term
		want api.Errno
	}{
		{nil, a, api.OK}, {[][]api.Term{a}, a, api.OK}, {[][]api.Term{nil}, a, api.ErrZero}, {[][]api.Term{{}}, nil, api.ErrZero}, {[][]api.Term{a, nil}, a, api.ErrZero},
		{[][]api.Term{a, a}, a, api.ErrTwice}, {[][]api.Term{a, b}, a, api.ErrTwice}, {[][]api.Term{a, col(0, 1), b}, nil, api.ErrTwice}, {[][]api.Term{top, col(1023, 1)}, nil, api.ErrTwice},
		{[][]api.Term{a, nil, b}, a, api.ErrZero}, {[][]api.Term{a, b, nil}, a, api.ErrTwice}, {[][]api.Term{nil, a, b}, a, api.ErrZero}, {[][]api.Term{col(0, 1), nil, col(0, 2)}, a, api.ErrZero},
		{[][]api.Term{a, a}, bad, api.ErrArg}, {[][]api.Term{nil}, order, api.ErrOrder}, {[][]api.Term{nil, a, bad}, order, api.ErrArg}, {[][]api.Term{a, a, order}, bad, api.ErrOrder},
		{make([][]api.Term, api.MaxCells), a, api.ErrZero}, {make([][]api.Term, api.MaxCells+1), bad, api.ErrLong}, {append(units(api.MaxCells-1), col(0, 1)), a, api.ErrTwice},
	} {
		rest, used, e := column.Rest(7, x.l, x.c)
		if e != x.want || e != api.OK && len(rest)+len(used) > 0 {
			t.Errorf("Rest of %s by %s: %s, %s, error %d; want error %d", text(x.c), texts(x.l), text(rest), text(used), e, x.want)
		}
	}
}

// R1, R2: with arguments that are right or wrong at random each function returns the
// first error of its table, and no other result then.
func TestErrorOrder(t *testing.T) {
	r := rand.New(rand.NewPCG(5, 1))
	ps := []int{7, 7, 7, 2, 251, 6, 0, math.MinInt}
	terms := []int{-1, 0, 1, 1, 2, 3, 4, 5, 6, 7, 8, 1023, 1024, math.MinInt, math.MaxInt}
	pick := func() []api.Term {
		switch r.IntN(8) {
		case 0:
			return nil
		case 1: // anything
			var c []api.Term
			for range r.IntN(4) {
				c = append(c, api.Term{Row: terms[r.IntN(len(terms))], C: terms[r.IntN(len(terms))]})
			}
			return c
		case 2:
			return col(r.IntN(4), 1+r.IntN(6), r.IntN(6), 1)
		}
		return random(r, 7, 6, 0.3)
	}
	for range 4000 {
		x := args{p: ps[r.IntN(len(ps))], a: pick(), b: pick(), k: terms[r.IntN(len(terms))], v: make([]int, r.IntN(3)*(api.MaxCells/2+r.IntN(2)))}
		for range r.IntN(5) {
			x.l = append(x.l, pick())
		}
		if r.IntN(10) == 0 {
			x.l = append(x.l, make([][]api.Term, api.MaxCells-r.IntN(3))...)
		}
		for _, f := range calls() {
			f.check(t, x)
		}
	}
}
