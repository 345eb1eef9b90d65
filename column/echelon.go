package column

import (
	"torus/api"
	"torus/modp"
)

// An echelon is a list of columns that is independent in its low rows.
type echelon struct {
	p    int
	cols [][]api.Term
	at   map[int]int // the index of the column with a low row
}

// echelonOf returns the columns of l, which are independent in their low rows.
func echelonOf(p int, l [][]api.Term) *echelon {
	s := &echelon{p: p, at: map[int]int{}}
	for _, c := range l {
		s.join(c)
	}
	return s
}

// spanOf returns columns that span the same space as l.
func spanOf(p int, l [][]api.Term) *echelon {
	s := echelonOf(p, nil)
	for _, c := range l {
		if rest, _ := s.rest(c); len(rest) > 0 {
			s.join(rest)
		}
	}
	return s
}

// join appends c, which is not empty and whose low row is that of no other column.
func (s *echelon) join(c []api.Term) {
	low, _ := Low(c)
	s.at[low] = len(s.cols)
	s.cols = append(s.cols, c)
}

// rest returns what is left of c when a combination of s is subtracted after which none
// of the low rows is left, and the combination.
func (s *echelon) rest(c []api.Term) (rest, used []api.Term) {
	var v, x vector
	v.add(1, c)
	low, _ := Low(c)
	// From the last row on, as subtracting a column changes only rows up to its low row.
	for row := low; row >= 0; row-- {
		a := modp.Mod(s.p, v[row])
		if a == 0 {
			continue
		}
		if i, ok := s.at[row]; ok {
			x[i], _ = modp.Div(s.p, a, lowCoef(s.cols[i])) // no error: coefficients are not 0
			v.add(s.p-x[i], s.cols[i])
		}
	}
	return sparse(s.p, v[:]), sparse(s.p, x[:])
}

// lowCoef returns the coefficient in the low row of c, which is not empty.
func lowCoef(c []api.Term) int {
	return c[len(c)-1].C
}

// reduced returns the reduced list that spans the same space.
func (s *echelon) reduced() [][]api.Term {
	r := echelonOf(s.p, nil)
	for row := range api.MaxCells {
		i, ok := s.at[row]
		if !ok {
			continue
		}
		// The columns in r have all lower low rows and none of them reaches this one, so
		// one pass in this order clears every low row from all other columns.
		rest, _ := r.rest(s.cols[i])
		k, _ := modp.Inv(s.p, lowCoef(rest))
		r.join(plus(s.p, nil, k, rest))
	}
	return r.cols
}

// kernel returns the reduced list of the combinations of l that are 0.
func kernel(p int, l [][]api.Term) [][]api.Term {
	s := echelonOf(p, nil)
	var zero, made [][]api.Term // made are the combinations of l that yield the columns of s
	for j, c := range l {
		rest, used := s.rest(c)
		x := plus(p, []api.Term{{Row: j, C: 1}}, -1, combination(p, made, used))
		if len(rest) > 0 {
			s.join(rest)
			made = append(made, x)
			continue
		}
		// Beside j, x has only indices of columns that have joined s, and none of those
		// is the low row of another element: so the list is reduced as it grows.
		zero = append(zero, x)
	}
	return zero
}
