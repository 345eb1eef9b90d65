package matrix_test

import (
	"math"
	"math/rand/v2"
	"slices"
	"testing"

	"torus/api"
	"torus/matrix"
)

// check calls f and checks its error, and that it has no other result then (R1).
func (f call) check(t *testing.T, x args) {
	t.Helper()
	r, want := f.do(x), f.want(x)
	if r.e != want || r.e != api.OK && !r.empty() {
		t.Errorf("%s with p = %d, a = %s, b = %s, v = %s: %s, %s, %d, error %d; want error %d", f.name, x.p, texts(x.a), texts(x.b), text(x.v), texts(r.rows), text(r.numbers), r.x, r.e, want)
	}
}

// with returns a copy of m in which the entry in row i and column j is x.
func with(m [][]int, i, j, x int) [][]int {
	c := copied(m)
	c[i][j] = x
	return c
}

// wrongMatrices are no matrices over p, with the error of each.
func wrongMatrices(p int) map[api.Errno][][][]int {
	const n = api.MaxRows
	m, large := full(3, 2, 1), full(n, n, 1)
	return map[api.Errno][][][]int{
		api.ErrLong: {
			full(n+1, 1, 0), full(1, n+1, 0), full(n+1, 0, 0), full(n+1, n+1, 1), full(n+1, n, 1), full(n, n+1, 1), full(1000, 1, 0), full(1, 1000, 0), append(copied(m), make([]int, n+1)), append(full(1, n+1, 0), m...),
			append(full(1, 1, p), full(1, n+1, 0)...), append(full(n, 1, p), []int{0, 0}), with(full(n+1, 1, 0), n, 0, -1), {{-1}, {}, make([]int, n+1)},
		},
		api.ErrShape: {
			{{0}, {}}, {{}, {0}}, {{1, 0}, {1}}, {{1}, {1, 0}}, {{1, 0}, {1, 1}, {1}}, append(copied(m), nil), append(full(n-1, n, 1), make([]int, n-1)), append(full(n-1, n-1, 1), make([]int, n)),
			{{p}, {}}, {{-1, 0}, {1}}, {{1, 1}, {p}}, {{math.MinInt}, {math.MaxInt, 0}}, {{0, 0}, {0, -1}, {0}},
		},
		api.ErrArg: {
			{{-1}}, {{p}}, {{p + 1}}, {{-p}}, {{2 * p}}, {{math.MinInt}}, {{math.MaxInt}}, {{0, p}}, {{0}, {-1}}, with(m, 0, 1, p), with(m, 2, 0, -1), with(m, 2, 1, p), with(large, n-1, n-1, p), with(large, 0, n-1, -1), with(large, n-1, 0, math.MinInt),
			{{p, -1}, {-1, p}}, with(full(n, 1, 0), n-1, 0, p), with(full(1, n, 0), 0, n-1, p), full(2, 2, 1<<40),
		},
	}
}

// The table of errors: what is no matrix is refused by each function, wherever it stands.
func TestErrMatrix(t *testing.T) {
	good := [][]int{{1, 0, 1}, {0, 1, 1}}
	for _, p := range somePrimes {
		for want, ms := range wrongMatrices(p) {
			for _, m := range ms {
				if e := matrix.Check(p, m); e != want {
					t.Errorf("Check of %s over %d: error %d; want %d", texts(m), p, e, want)
				}
				for _, f := range calls() {
					f.check(t, args{p: p, a: m, b: good, v: []int{0, 1}})
					f.check(t, args{p: p, a: good, b: m, v: []int{0, 1}})
					f.check(t, args{p: p, a: m, v: make([]int, len(m))})
					f.check(t, args{p: p, b: m})
					for _, others := range wrongMatrices(p) { // the errors of a come first
						f.check(t, args{p: p, a: m, b: others[len(m)%len(others)], v: []int{p}})
					}
				}
			}
		}
	}
}

// The table of errors: numbers that are no primes, ahead of all other errors, also with
// matrices without rows.
func TestErrPrime(t *testing.T) {
	for _, p := range append(slices.Clone(noPrimes), 7) {
		for _, m := range [][][]int{nil, {nil}, {{0}}, {{1}}, {{-1}}, {{0}, {}}, full(2, 3, 0), full(65, 65, 1), {{1, 0}, {0, 1}}} {
			for _, f := range calls() {
				f.check(t, args{p: p, a: m, b: m, v: make([]int, len(m))})
				f.check(t, args{p: p, a: m, v: []int{-1}})
				f.check(t, args{p: p, b: m})
			}
		}
	}
}

// The table of errors: MaxRows rows and columns are taken, and one more is not.
func TestErrLong(t *testing.T) {
	sizes := []int{0, 1, api.MaxRows - 1, api.MaxRows, api.MaxRows + 1}
	r := rand.New(rand.NewPCG(10, 1))
	for _, p := range []int{2, 251} {
		for _, n := range sizes {
			for _, k := range sizes {
				m, other := random(r, p, n, k, 0.7), full(api.MaxRows, 1, 1)
				for _, f := range calls() {
					f.check(t, args{p: p, a: m, b: m, v: make([]int, n)})
					f.check(t, args{p: p, a: m, b: other, v: make([]int, n+1)})
					f.check(t, args{p: p, a: other, b: m, v: make([]int, api.MaxRows)})
				}
			}
		}
	}
}

// The table of errors: sizes that do not fit, and what comes after them.
func TestErrShape(t *testing.T) {
	sizes := []int{0, 1, 2, 3, api.MaxRows}
	for _, n := range sizes {
		for _, k := range sizes {
			a := full(n, k, 1)
			for _, n2 := range sizes {
				for _, k2 := range sizes {
					b := full(n2, k2, 1)
					for _, f := range calls() {
						f.check(t, args{p: 7, a: a, b: b, v: make([]int, n2)})
						f.check(t, args{p: 7, a: a, b: b, v: slices.Repeat([]int{7}, n2)})
					}
				}
			}
		}
	}
	for _, c := range []struct {
		name string
		a, b [][]int
		v    []int
		want api.Errno
	}{
		{"Mul", nil, full(1, 1, 0), nil, api.ErrShape}, {"Mul", full(2, 0, 0), full(1, 0, 0), nil, api.ErrShape}, {"Mul", full(2, 3, 0), nil, nil, api.ErrShape}, {"Mul", full(2, 3, 0), full(2, 3, 0), nil, api.ErrShape}, {"Mul", full(2, 3, 0), full(3, 1, 0), nil, api.OK},
		{"Det", full(1, 0, 0), nil, nil, api.ErrShape}, {"Det", full(2, 3, 0), nil, nil, api.ErrShape}, {"Det", full(3, 2, 0), nil, nil, api.ErrShape}, {"Det", nil, nil, nil, api.OK},
		{"Charpoly", full(2, 0, 0), nil, nil, api.ErrShape}, {"Charpoly", full(2, 3, 0), nil, nil, api.ErrShape}, {"Charpoly", full(1, 1, 0), nil, nil, api.OK},
		{"Invert", full(2, 3, 0), nil, nil, api.ErrShape}, {"Invert", full(3, 2, 0), nil, nil, api.ErrShape}, {"Invert", full(1, 0, 0), nil, nil, api.ErrShape}, {"Invert", full(3, 3, 0), nil, nil, api.ErrZero},
		{"Solve", full(2, 3, 0), nil, []int{0}, api.ErrShape}, {"Solve", full(2, 3, 0), nil, []int{7, 0, 0}, api.ErrShape}, {"Solve", full(2, 3, 0), nil, nil, api.ErrShape}, {"Solve", nil, nil, []int{0}, api.ErrShape}, {"Solve", full(2, 3, 0), nil, []int{1, 7}, api.ErrArg},
		{"Solve", full(2, 3, 0), nil, []int{1, -1}, api.ErrArg}, {"Solve", full(2, 3, 0), nil, []int{math.MinInt, 0}, api.ErrArg}, {"Solve", full(2, 3, 0), nil, []int{1, math.MaxInt}, api.ErrArg}, {"Solve", full(2, 3, 0), nil, []int{1, 6}, api.ErrNone}, {"Solve", full(2, 3, 7), nil, nil, api.ErrArg},
		{"Sum", full(1, 2, 0), full(1, 3, 0), nil, api.ErrShape}, {"Sum", full(1, 0, 0), full(1, 1, 0), nil, api.ErrShape}, {"Sum", nil, full(1, 1, 0), nil, api.OK}, {"Sum", full(1, 2, 0), nil, nil, api.OK},
		{"Meet", full(1, 2, 0), full(1, 3, 0), nil, api.ErrShape}, {"Meet", full(1, 1, 0), full(1, 0, 0), nil, api.ErrShape}, {"Meet", nil, full(1, 1, 0), nil, api.OK}, {"Meet", full(1, 2, 0), nil, nil, api.OK}, {"Meet", full(1, 2, 0), full(1, 3, 7), nil, api.ErrArg},
	} {
		i := slices.IndexFunc(calls(), func(f call) bool { return f.name == c.name })
		if r := calls()[i].do(args{p: 7, a: c.a, b: c.b, v: c.v}); r.e != c.want || r.e != api.OK && !r.empty() {
			t.Errorf("%s of %s, %s, %s: error %d; want %d", c.name, texts(c.a), texts(c.b), text(c.v), r.e, c.want)
		}
	}
}

// R1, R2: with arguments that are right or wrong at random each function returns the
// first error of its table, and no other result then.
func TestErrorOrder(t *testing.T) {
	r := rand.New(rand.NewPCG(10, 2))
	ps := []int{7, 7, 7, 2, 3, 251, 6, 0, math.MinInt}
	odd := []int{-1, 7, 8, 251, math.MinInt, math.MaxInt}
	pick := func() [][]int {
		m := random(r, 2+r.IntN(6), r.IntN(4), r.IntN(4), 0.7)
		for n := r.IntN(6); n < 3 && len(m) > 0; n++ { // things that are wrong
			i := r.IntN(len(m))
			switch r.IntN(4) {
			case 0:
				m[i] = append(m[i], 1)
			case 1:
				m[i] = append(m[i], odd[r.IntN(len(odd))])
			case 2:
				m[i] = m[i][:len(m[i])/2]
			default:
				m[i] = append(slices.Clip(m[i]), make([]int, r.IntN(2)*api.MaxRows)...)
			}
		}
		if r.IntN(20) == 0 {
			m = append(m, full(api.MaxRows-r.IntN(3), width(m), 0)...)
		}
		return m
	}
	for range 6000 {
		x := args{p: ps[r.IntN(len(ps))], a: pick(), b: pick()}
		x.v = random(r, 7, 1, len(x.a)+(r.IntN(4)+1)/4, 0.5)[0]
		if len(x.v) > 0 && r.IntN(4) == 0 {
			x.v[r.IntN(len(x.v))] = odd[r.IntN(len(odd))]
		}
		for _, f := range calls() {
			f.check(t, x)
		}
	}
}
