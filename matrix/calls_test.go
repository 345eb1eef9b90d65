package matrix_test

import (
	"torus/api"
	"torus/matrix"
)

// Args are the arguments of a call; each function takes those it needs.
type args struct {
	p    int
	a, b [][]int
	v    []int
}

// A result is what a call returns: rows, numbers or a number, and an error.
type result struct {
	rows    [][]int
	numbers []int
	x       int
	e       api.Errno
}

// A call is a function of the package, and the error that its table asks for.
type call struct {
	name string
	do   func(x args) result
	want func(x args) api.Errno
}

func several(m [][]int, e api.Errno) result { return result{rows: m, e: e} }
func numbers(v []int, e api.Errno) result   { return result{numbers: v, e: e} }
func number(x int, e api.Errno) result      { return result{x: x, e: e} }

// first returns the first error, if there is one.
func first(l ...api.Errno) api.Errno {
	for _, e := range l {
		if e != api.OK {
			return e
		}
	}
	return api.OK
}

// when returns the error if it applies.
func when(applies bool, e api.Errno) api.Errno {
	if applies {
		return e
	}
	return api.OK
}

// noPrime is the error of p.
func noPrime(p int) api.Errno {
	prime := p >= 2 && p <= api.MaxPrime
	for d := 2; prime && d < p; d++ {
		prime = p%d != 0
	}
	return when(!prime, api.ErrPrime)
}

// outside is the error of numbers that are not from 0 to p - 1.
func outside(p int, v []int) api.Errno {
	for _, x := range v {
		if x < 0 || x > p-1 {
			return api.ErrArg
		}
	}
	return api.OK
}

// wrong is the error of the table for Check: each error in all rows ahead of the next.
func wrong(p int, m [][]int) api.Errno {
	long, shape, arg := when(len(m) > 64, api.ErrLong), api.OK, api.OK
	for _, row := range m {
		long = first(long, when(len(row) > 64, api.ErrLong))
		shape = first(shape, when(len(row) != len(m[0]), api.ErrShape))
		arg = first(arg, outside(p, row))
	}
	return first(noPrime(p), long, shape, arg)
}

// calls are all functions of the package.
func calls() []call {
	single := func(x args) api.Errno { return wrong(x.p, x.a) }
	square := func(x args) api.Errno {
		return first(wrong(x.p, x.a), when(len(x.a) > 0 && len(x.a) != len(x.a[0]), api.ErrShape))
	}
	spaces := func(x args) api.Errno {
		return first(wrong(x.p, x.a), wrong(x.p, x.b), when(len(x.a) > 0 && len(x.b) > 0 && width(x.a) != width(x.b), api.ErrShape))
	}
	return []call{
		{"Check", func(x args) result { return result{e: matrix.Check(x.p, x.a)} }, single},
		{"Transpose", func(x args) result { return several(matrix.Transpose(x.p, x.a)) }, single},
		{"Mul", func(x args) result { return several(matrix.Mul(x.p, x.a, x.b)) }, func(x args) api.Errno {
			return first(wrong(x.p, x.a), wrong(x.p, x.b), when(width(x.a) != len(x.b), api.ErrShape))
		}},
		{"Echelon", func(x args) result { return several(matrix.Echelon(x.p, x.a)) }, single},
		{"Rank", func(x args) result { return number(matrix.Rank(x.p, x.a)) }, single},
		{"Det", func(x args) result { return number(matrix.Det(x.p, x.a)) }, square},
		{"Charpoly", func(x args) result { return numbers(matrix.Charpoly(x.p, x.a)) }, square},
		{"Invert", func(x args) result { return several(matrix.Invert(x.p, x.a)) }, func(x args) api.Errno {
			if e := square(x); e != api.OK {
				return e
			}
			return when(rank(x.p, x.a) < len(x.a), api.ErrZero)
		}},
		{"Kernel", func(x args) result { return several(matrix.Kernel(x.p, x.a)) }, single},
		{"Image", func(x args) result { return several(matrix.Image(x.p, x.a)) }, single},
		{"Solve", func(x args) result { return numbers(matrix.Solve(x.p, x.a, x.v)) }, func(x args) api.Errno {
			if e := first(wrong(x.p, x.a), when(len(x.v) != len(x.a), api.ErrShape), outside(x.p, x.v)); e != api.OK {
				return e
			}
			columns := turned(x.a)
			return when(rank(x.p, append(columns, x.v)) > rank(x.p, columns), api.ErrNone)
		}},
		{"Sum", func(x args) result { return several(matrix.Sum(x.p, x.a, x.b)) }, spaces},
		{"Meet", func(x args) result { return several(matrix.Meet(x.p, x.a, x.b)) }, spaces},
	}
}

// empty reports whether all of r beside the error is a zero value.
func (r result) empty() bool {
	return len(r.rows) == 0 && len(r.numbers) == 0 && r.x == 0
}
