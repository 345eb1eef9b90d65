package column

import (
	"iter"

	"torus/api"
	"torus/modp"
)

// A place is a row with the coefficients that two columns have there.
type place struct {
	row, a, b int
}

// merged yields the places of the rows of a and b, in ascending order.
func merged(a, b []api.Term) iter.Seq[place] {
	return func(yield func(place) bool) {
		i, j := 0, 0
		for i < len(a) || j < len(b) {
			t := place{row: api.MaxCells}
			if i < len(a) {
				t.row = a[i].Row
			}
			if j < len(b) {
				t.row = min(t.row, b[j].Row)
			}
			if i < len(a) && a[i].Row == t.row {
				t.a = a[i].C
				i++
			}
			if j < len(b) && b[j].Row == t.row {
				t.b = b[j].C
				j++
			}
			if !yield(t) {
				return
			}
		}
	}
}

// plus returns a + k b.
func plus(p int, a []api.Term, k int, b []api.Term) []api.Term {
	k = modp.Mod(p, k) // k itself could wrap around below
	c := make([]api.Term, 0, len(a)+len(b))
	for t := range merged(a, b) {
		if x := modp.Mod(p, t.a+k*t.b); x != 0 {
			c = append(c, api.Term{Row: t.row, C: x})
		}
	}
	return c
}

// dot returns the sum of the products of the coefficients of a and b.
func dot(p int, a, b []api.Term) int {
	s := 0 // at most MaxCells products of two residues: no need to take residues on the way
	for t := range merged(a, b) {
		s += t.a * t.b
	}
	return modp.Mod(p, s)
}

// A vector has an entry for each row of a column, an integer that stands for its
// residue. Entries are sums of at most MaxCells products of two residues and one
// residue more, far below the greatest int, so residues are taken at the end only.
type vector [api.MaxCells]int

// add adds k c for a residue k.
func (v *vector) add(k int, c []api.Term) {
	for _, t := range c {
		v[t.Row] += k * t.C
	}
}

// sparse returns the column whose entries are the residues of v.
func sparse(p int, v []int) []api.Term {
	var c []api.Term
	for row, a := range v {
		if x := modp.Mod(p, a); x != 0 {
			c = append(c, api.Term{Row: row, C: x})
		}
	}
	return c
}

// combination returns the combination of l that x gives.
func combination(p int, l [][]api.Term, x []api.Term) []api.Term {
	var v vector
	for _, t := range x {
		v.add(t.C, l[t.Row])
	}
	return sparse(p, v[:])
}
