package column_test

import (
	"torus/api"
	"torus/column"
)

// Args are the arguments of a call; each function takes those it needs.
type args struct {
	p    int
	l    [][]api.Term
	a, b []api.Term
	k    int
	v    []int
}

// A result is what a call returns: columns, numbers and an error.
type result struct {
	cols    [][]api.Term
	numbers []int
	e       api.Errno
}

// A call is a function of the package, and the error that its table asks for.
type call struct {
	name string
	do   func(x args) result
	want func(x args) api.Errno
}

func one(c []api.Term, e api.Errno) result       { return result{cols: [][]api.Term{c}, e: e} }
func several(l [][]api.Term, e api.Errno) result { return result{cols: l, e: e} }
func number(n int, e api.Errno) result           { return result{numbers: []int{n}, e: e} }
func numbers(v []int, e api.Errno) result        { return result{numbers: v, e: e} }

// first returns the first error, if there is one.
func first(l ...api.Errno) api.Errno {
	for _, e := range l {
		if e != api.OK {
			return e
		}
	}
	return api.OK
}

// when returns the error if it applies.
func when(applies bool, e api.Errno) api.Errno {
	if applies {
		return e
	}
	return api.OK
}

// noPrime is the error of p.
func noPrime(p int) api.Errno {
	prime := p >= 2 && p <= api.MaxPrime
	for d := 2; prime && d < p; d++ {
		prime = p%d != 0
	}
	return when(!prime, api.ErrPrime)
}

// wrong is the error of the table for Check.
func wrong(p int, c []api.Term) api.Errno {
	e := noPrime(p)
	for i, t := range c {
		e = first(e, when(t.Row < 0 || t.Row > api.MaxCells-1 || t.C < 1 || t.C > p-1, api.ErrArg), when(i > 0 && t.Row <= c[i-1].Row, api.ErrOrder))
	}
	return e
}

// wrongs is the error of the columns of a list.
func wrongs(p int, l [][]api.Term) api.Errno {
	e := api.OK
	for _, c := range l {
		e = first(e, wrong(p, c))
	}
	return e
}

// tooLong is the error of the length of a list.
func tooLong[T any](l []T) api.Errno { return when(len(l) > api.MaxCells, api.ErrLong) }

// dependent is the error of the low rows of a list.
func dependent(l [][]api.Term) api.Errno {
	e, seen := api.OK, map[int]bool{}
	for _, c := range l {
		if len(c) == 0 {
			e = first(e, api.ErrZero)
			continue
		}
		low := c[len(c)-1].Row
		e = first(e, when(seen[low], api.ErrTwice))
		seen[low] = true
	}
	return e
}

// reaches reports whether a row of c is not less than n.
func reaches(c []api.Term, n int) bool {
	for _, t := range c {
		if t.Row >= n {
			return true
		}
	}
	return false
}

// calls are all functions of the package.
func calls() []call {
	space := func(x args) api.Errno { return first(tooLong(x.l), noPrime(x.p), wrongs(x.p, x.l)) }
	two := func(x args) api.Errno { return first(wrong(x.p, x.a), wrong(x.p, x.b)) }
	single := func(x args) api.Errno { return wrong(x.p, x.a) }
	never := func(args) api.Errno { return api.OK }
	return []call{
		{"Check", func(x args) result { return result{e: column.Check(x.p, x.a)} }, single},
		{"Of", func(x args) result { return one(column.Of(x.p, x.v)) }, func(x args) api.Errno { return first(noPrime(x.p), tooLong(x.v)) }},
		{"Dense", func(x args) result { return numbers(column.Dense(x.p, x.a, x.k)) }, func(x args) api.Errno {
			return first(wrong(x.p, x.a), when(x.k < 0 || x.k > api.MaxCells || reaches(x.a, x.k), api.ErrShape))
		}},
		{"Low", func(x args) result {
			row, ok := column.Low(x.a)
			if !ok {
				return result{numbers: []int{row, 0}}
			}
			return result{numbers: []int{row, 1}}
		}, never},
		{"Coef", func(x args) result { return number(column.Coef(x.a, x.k), api.OK) }, never},
		{"Add", func(x args) result { return one(column.Add(x.p, x.a, x.k, x.b)) }, two},
		{"Scale", func(x args) result { return one(column.Scale(x.p, x.a, x.k)) }, single},
		{"Dot", func(x args) result { return number(column.Dot(x.p, x.a, x.b)) }, two},
		{"Combine", func(x args) result { return one(column.Combine(x.p, x.l, x.a)) }, func(x args) api.Errno {
			return first(tooLong(x.l), wrongs(x.p, x.l), wrong(x.p, x.a), when(reaches(x.a, len(x.l)), api.ErrShape))
		}},
		{"Rest", func(x args) result {
			rest, used, e := column.Rest(x.p, x.l, x.a)
			return result{cols: [][]api.Term{rest, used}, e: e}
		}, func(x args) api.Errno {
			return first(tooLong(x.l), wrongs(x.p, x.l), wrong(x.p, x.a), dependent(x.l))
		}},
		{"Basis", func(x args) result { return several(column.Basis(x.p, x.l)) }, space},
		{"Rank", func(x args) result { return number(column.Rank(x.p, x.l)) }, space},
		{"Kernel", func(x args) result { return several(column.Kernel(x.p, x.l)) }, space},
	}
}

// empty reports whether the columns and numbers of r are zero values.
func (r result) empty() bool {
	for _, c := range r.cols {
		if len(c) > 0 {
			return false
		}
	}
	for _, n := range r.numbers {
		if n != 0 {
			return false
		}
	}
	return true
}
