package column_test

import (
	"math/rand/v2"
	"slices"
	"testing"

	"torus/api"
	"torus/column"
)

// independent returns size columns over p with different low rows below n, in any order.
func independent(r *rand.Rand, p, size, n int, share float64) [][]api.Term {
	l := make([][]api.Term, size)
	for i, low := range r.Perm(n)[:size] {
		l[i] = append(random(r, p, low, share), api.Term{Row: low, C: 1 + r.IntN(p-1)})
	}
	return l
}

// checkRest checks the rest of c: c is the rest plus the combination, and no low row of
// the list is left. As the chapter says, that leaves one result.
func checkRest(t *testing.T, p int, l [][]api.Term, c []api.Term) (rest, used []api.Term) {
	t.Helper()
	rest, used, e := column.Rest(p, l, c)
	if e != api.OK || !valid(p, rest) || !valid(p, used) || len(used) > 0 && used[len(used)-1].Row >= len(l) {
		t.Fatalf("Rest of %s by %s over %d: %s, %s, error %d", text(c), texts(l), p, text(rest), text(used), e)
	}
	if *plus(p, vectorOf(rest), 1, sumOf(p, l, used)) != *vectorOf(c) {
		t.Errorf("Rest of %s by %s over %d: %s and the combination %s are not %s together", text(c), texts(l), p, text(rest), text(used), text(c))
	}
	v := vectorOf(rest)
	for _, b := range l {
		if low := b[len(b)-1].Row; v[low] != 0 {
			t.Errorf("Rest of %s by %s over %d: %s has the low row %d", text(c), texts(l), p, text(rest), low)
		}
	}
	return rest, used
}

// P4.4: the rest for short and long lists, sparse and full ones.
func TestRest(t *testing.T) {
	r := rand.New(rand.NewPCG(3, 1))
	for _, p := range somePrimes {
		for _, s := range []struct {
			size, n int
			share   float64
		}{{0, 1, 0}, {1, 1, 1}, {1, 9, 0.5}, {3, 5, 0.5}, {5, 5, 1}, {6, 20, 0.3}, {20, 40, 0.9}, {100, 300, 0.05}, {100, api.MaxCells, 1}} {
			for range 5 {
				l := independent(r, p, s.size, s.n, s.share)
				checkRest(t, p, l, nil)
				checkRest(t, p, l, col(s.n-1, 1))
				checkRest(t, p, l, full(api.MaxCells, p-1))
				checkRest(t, p, l, random(r, p, s.n, 0.5))
				checkRest(t, p, l, random(r, p, api.MaxCells, 0.1))
			}
		}
	}
}

// P4.4: a list with MaxCells columns leaves nothing, and takes all of them if it has to.
func TestRestLongest(t *testing.T) {
	r := rand.New(rand.NewPCG(3, 2))
	for _, p := range []int{2, 251} {
		for _, l := range [][][]api.Term{units(api.MaxCells), independent(r, p, api.MaxCells, api.MaxCells, 0.02), independent(r, p, api.MaxCells, api.MaxCells, 1)} {
			for _, c := range [][]api.Term{nil, full(api.MaxCells, 1), random(r, p, api.MaxCells, 0.5)} {
				if rest, _ := checkRest(t, p, l, c); len(rest) > 0 {
					t.Errorf("over %d the rest by MaxCells columns is %s", p, text(rest))
				}
			}
		}
		c := full(api.MaxCells, p-1)
		rest, used, e := column.Rest(p, units(api.MaxCells), c)
		is(t, "the rest by the units", rest, e, nil, api.OK)
		is(t, "what the rest by the units uses", used, e, c, api.OK)
	}
}

// P4.7: the rest is 0 exactly if c is a combination of the list.
func TestRestZero(t *testing.T) {
	r := rand.New(rand.NewPCG(3, 3))
	for _, p := range somePrimes {
		for range 30 {
			l := independent(r, p, 1+r.IntN(8), 12, 0.5)
			x := random(r, p, len(l), 0.6)
			c, e := column.Combine(p, l, x)
			rest, used, e2 := column.Rest(p, l, c)
			is(t, "the rest of a combination", rest, max(e, e2), nil, api.OK)
			is(t, "what is used for it", used, e2, x, api.OK)
			for _, low := range r.Perm(14)[:2] { // with a row that no combination reaches, it is none
				if slices.ContainsFunc(l, func(b []api.Term) bool { return b[len(b)-1].Row == low }) {
					continue
				}
				off, _ := column.Add(p, c, 1, col(low, 1))
				if rest, _, _ := column.Rest(p, l, off); !slices.Equal(rest, col(low, 1)) {
					t.Errorf("the rest of a combination and %d:1 over %d is %s", low, p, text(rest))
				}
			}
		}
	}
}

// P4.7: with few rows all columns are tried: those whose rest is 0 are the combinations.
func TestRestZeroAll(t *testing.T) {
	r := rand.New(rand.NewPCG(3, 4))
	for _, s := range []struct{ p, n int }{{2, 6}, {3, 4}, {5, 3}, {7, 2}} {
		for size := range s.n + 1 {
			l := independent(r, s.p, size, s.n, 0.6)
			in := spanned(s.p, l)
			for _, c := range everything(s.p, s.n) {
				rest, _ := checkRest(t, s.p, l, c)
				if (len(rest) == 0) != in[*vectorOf(c)] {
					t.Errorf("the rest of %s by %s over %d is %s", text(c), texts(l), s.p, text(rest))
				}
			}
		}
	}
}

// P4.7: the rest of the rest is itself, and uses nothing.
func TestRestTwice(t *testing.T) {
	r := rand.New(rand.NewPCG(3, 5))
	for _, p := range somePrimes {
		for range 40 {
			l := independent(r, p, r.IntN(20), 40, 0.5)
			rest, _ := checkRest(t, p, l, random(r, p, 50, 0.5))
			again, used, e := column.Rest(p, l, rest)
			is(t, "the rest of a rest", again, e, rest, api.OK)
			is(t, "what the rest of a rest uses", used, e, nil, api.OK)
		}
	}
}

// everything returns all columns over p with rows below n.
func everything(p, n int) [][]api.Term {
	all := [][]api.Term{nil}
	for row := range n {
		for _, c := range all[:len(all):len(all)] {
			for x := 1; x < p; x++ {
				all = append(all, append(slices.Clone(c), api.Term{Row: row, C: x}))
			}
		}
	}
	return all
}

// spanned returns the set of all combinations of l, by trying them.
func spanned(p int, l [][]api.Term) map[vector]bool {
	in := map[vector]bool{}
	for _, x := range everything(p, len(l)) {
		in[*sumOf(p, l, x)] = true
	}
	return in
}
