package matrix_test

import (
	"maps"
	"math/rand/v2"
	"slices"
	"testing"

	"torus/api"
	"torus/matrix"
)

// spaces are matrices over p with k columns, and those without rows: with spaces of all
// dimensions that are equal, contain each other, have only 0 in common, or none of these.
func spaces(r *rand.Rand, p, k int) [][][]int {
	all := regular(r, p, k)
	l := [][][]int{nil, full(1, k, 0), full(2, k, 1), all, identity(k)}
	for n := 0; n <= k; n += max(1, k/4) {
		m := all[:n]
		l = append(l, m, all[n:], all[n/2:(n+k)/2], times(p, regular(r, p, max(1, n))[:n], m, k), random(r, p, n, k, 0.5))
	}
	return append(l, slices.Concat(all[:k/2], all[:k/2]))
}

// checkSpaces checks the sum and the intersection of the row spaces of a and b, of which
// k is the length of the rows: both are basis matrices, the sum spans what both span
// together, and the intersection is in both and as large as it can be. That leaves one.
func checkSpaces(t *testing.T, p int, a, b [][]int, k int) (sum, meet [][]int) {
	t.Helper()
	n := rank(p, slices.Concat(a, b))
	sum, e := matrix.Sum(p, a, b)
	if e != api.OK || !isBasis(p, sum, k) || len(sum) != n || rank(p, slices.Concat(sum, a, b)) != n {
		t.Fatalf("the sum of %s and %s over %d: %s, error %d", texts(a), texts(b), p, texts(sum), e)
	}
	x, y := rank(p, a), rank(p, b)
	meet, e = matrix.Meet(p, a, b)
	if e != api.OK || !isBasis(p, meet, k) || rank(p, slices.Concat(a, meet)) != x || rank(p, slices.Concat(b, meet)) != y {
		t.Fatalf("the intersection of %s and %s over %d: %s, error %d", texts(a), texts(b), p, texts(meet), e)
	}
	if len(sum)+len(meet) != x+y { // P5.10
		t.Errorf("over %d the ranks of %s, %s, their sum and intersection are %d, %d, %d, %d", p, texts(a), texts(b), x, y, len(sum), len(meet))
	}
	return sum, meet
}

// P5.5, P5.10: sums and intersections of spaces of all kinds.
func TestSumMeet(t *testing.T) {
	r := rand.New(rand.NewPCG(9, 1))
	for _, p := range somePrimes {
		for _, k := range []int{1, 2, 3, 5, 8} {
			l := spaces(r, p, k)
			for _, a := range l {
				for _, b := range l {
					checkSpaces(t, p, a, b, k)
				}
			}
		}
	}
	for _, p := range []int{2, 251} {
		l := spaces(r, p, api.MaxRows)
		for i, a := range l {
			checkSpaces(t, p, a, l[len(l)-1-i], api.MaxRows)
			checkSpaces(t, p, a, l[i*5%len(l)], api.MaxRows)
		}
	}
}

// P5.5: sums and intersections that are known, those of matrices without rows or columns
// among them.
func TestSumMeetKnown(t *testing.T) {
	x, y := [][]int{{1, 0, 0}, {0, 1, 0}}, [][]int{{0, 0, 3}, {0, 1, 1}}
	for _, c := range []struct{ a, b, sum, meet [][]int }{
		{nil, nil, nil, nil}, {nil, full(2, 0, 0), nil, nil}, {full(3, 0, 0), full(2, 0, 0), nil, nil}, {nil, full(2, 3, 0), nil, nil}, {full(1, 3, 0), full(2, 3, 0), nil, nil},
		{nil, full(2, 3, 2), full(1, 3, 1), nil}, {full(2, 3, 0), full(2, 3, 2), full(1, 3, 1), nil}, {full(1, 3, 5), full(2, 3, 2), full(1, 3, 1), full(1, 3, 1)},
		{x, y, identity(3), [][]int{{0, 1, 0}}}, {x, [][]int{{0, 0, 2}}, identity(3), nil}, {x, [][]int{{3, 5, 0}}, x, [][]int{{1, 4, 0}}}, {x, identity(3), identity(3), x},
		{[][]int{{1, 1, 0, 0}, {0, 0, 1, 1}}, [][]int{{1, 0, 1, 0}, {0, 1, 0, 1}}, [][]int{{1, 0, 0, 6}, {0, 1, 0, 1}, {0, 0, 1, 1}}, full(1, 4, 1)},
	} {
		for _, z := range [][2][][]int{{c.a, c.b}, {c.b, c.a}} {
			sum, e := matrix.Sum(7, z[0], z[1])
			is(t, "the sum of "+texts(z[0])+" and "+texts(z[1]), sum, e, c.sum, api.OK)
			meet, e := matrix.Meet(7, z[0], z[1])
			is(t, "the intersection of "+texts(z[0])+" and "+texts(z[1]), meet, e, c.meet, api.OK)
		}
	}
}

// P5.5: with few rows the spaces are compared element by element.
func TestSumMeetAll(t *testing.T) {
	r := rand.New(rand.NewPCG(9, 2))
	for _, s := range []struct{ p, k int }{{2, 4}, {3, 3}, {5, 2}} {
		for range 60 {
			a, b := random(r, s.p, r.IntN(4), s.k, 0.6), random(r, s.p, r.IntN(4), s.k, 0.6)
			sum, meet := checkSpaces(t, s.p, a, b, s.k)
			both, inB := spanned(s.p, a, s.k), spanned(s.p, b, s.k)
			maps.DeleteFunc(both, func(v string, _ bool) bool { return !inB[v] })
			if !maps.Equal(spanned(s.p, meet, s.k), both) {
				t.Errorf("over %d the intersection of %s and %s is not %s", s.p, texts(a), texts(b), texts(meet))
			}
			if got, want := spanned(s.p, sum, s.k), spanned(s.p, slices.Concat(a, b), s.k); !maps.Equal(got, want) {
				t.Errorf("over %d the sum of %s and %s is not %s", s.p, texts(a), texts(b), texts(sum))
			}
		}
	}
}

// P5.10: Sum and Meet are commutative and associative, and each absorbs the other.
func TestSumMeetProperties(t *testing.T) {
	r := rand.New(rand.NewPCG(9, 3))
	for _, p := range []int{2, 3, 251} {
		must := must[[][]int](t)
		ops := []func(a, b [][]int) [][]int{
			func(a, b [][]int) [][]int { return must(matrix.Sum(p, a, b)) },
			func(a, b [][]int) [][]int { return must(matrix.Meet(p, a, b)) },
		}
		for _, k := range []int{1, 2, 4, 6} {
			l := spaces(r, p, k)
			for range 300 {
				a, b, c := l[r.IntN(len(l))], l[r.IntN(len(l))], l[r.IntN(len(l))]
				for i, do := range ops {
					other := ops[1-i]
					if x, y := do(a, b), do(b, a); !same(x, y) {
						t.Errorf("operation %d of %s and %s over %d is %s or %s", i, texts(a), texts(b), p, texts(x), texts(y))
					}
					if x, y := do(do(a, b), c), do(a, do(b, c)); !same(x, y) {
						t.Errorf("operation %d of %s, %s and %s over %d is %s or %s", i, texts(a), texts(b), texts(c), p, texts(x), texts(y))
					}
					if x, y := do(a, other(a, b)), do(a, a); !same(x, y) || !isBasis(p, x, k) || !spans(p, x, a) {
						t.Errorf("operation %d of %s and what it has with %s over %d is %s; want %s", i, texts(a), texts(b), p, texts(x), texts(y))
					}
				}
			}
		}
	}
}
