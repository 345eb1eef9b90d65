package matrix_test

import (
	"math/rand/v2"
	"reflect"
	"slices"
	"testing"

	"torus/matrix"
)

// spare returns a copy of l with other elements between its length and its capacity.
func spare[T any](l []T, other T) []T {
	long := append(append([]T{}, l...), other, other, other)
	return long[:len(l):len(long)]
}

// behind returns all elements of l up to its capacity.
func behind[T any](l []T) []T { return l[:cap(l)] }

// fresh returns arguments with capacities beyond their lengths, the same for the same seed.
func fresh(seed uint64) args {
	r := rand.New(rand.NewPCG(11, seed))
	p := []int{2, 7, 251}[seed%3]
	n := 1 + r.IntN(5)
	a, b := regular(r, p, n), random(r, p, n, n, 0.4)
	switch seed % 8 { // also what is its own result already
	case 0:
		a = identity(n)
	case 1:
		a = full(n, n, 0)
	case 2:
		b = identity(n)
	case 3:
		a = [][]int{{1, 0, 1}, {0, 1, 1}, {0, 0, 0}}
		b, n = a[:2], 3
	case 4:
		b = nil
	case 5:
		a = random(r, p, n, 1+r.IntN(6), 0.6)
	}
	x := args{p: p, v: spare(random(r, p, 1, n, 0.7)[0], 77)}
	for _, row := range a {
		x.a = append(x.a, spare(row, 99))
	}
	for _, row := range b {
		x.b = append(x.b, spare(row, 88))
	}
	x.a, x.b = spare(x.a, []int{55}), spare(x.b, []int{66})
	return x
}

// memory returns the whole memory of a matrix, copied.
func memory(m [][]int) [][]int {
	var c [][]int
	for _, row := range behind(m) {
		c = append(c, append([]int{}, behind(row)...))
	}
	return c
}

// seen returns the whole memory of the arguments, copied.
func (x args) seen() args {
	return args{p: x.p, a: memory(x.a), b: memory(x.b), v: append([]int{}, behind(x.v)...)}
}

// spoil changes the whole memory of the arguments.
func (x args) spoil() {
	for _, m := range [][][]int{x.a, x.b} {
		for _, row := range behind(m) {
			clear(behind(row))
		}
		clear(behind(m))
	}
	clear(behind(x.v))
}

// copied returns r in other memory.
func (r result) copied() result {
	return result{rows: copied(r.rows), numbers: slices.Clone(r.numbers), x: r.x, e: r.e}
}

// equal reports whether two results are the same.
func (r result) equal(s result) bool {
	return same(r.rows, s.rows) && slices.Equal(r.numbers, s.numbers) && r.x == s.x && r.e == s.e
}

// R3: no function changes what it is handed, not even behind the ends; its result keeps
// its value when that is changed later. R4: equal arguments yield equal results.
func TestArgumentsKept(t *testing.T) {
	for seed := range uint64(80) {
		for _, f := range calls() {
			x := fresh(seed)
			before := x.seen()
			r := f.do(x)
			if !reflect.DeepEqual(x.seen(), before) {
				t.Errorf("%s changes its arguments from %v to %v", f.name, before, x.seen())
			}
			value := r.copied()
			if again := f.do(x); !again.equal(value) {
				t.Errorf("%s yields %v, and then %v", f.name, value, again)
			}
			x.spoil()
			if !r.equal(value) {
				t.Errorf("%s: the result %v becomes %v when the arguments change", f.name, value, r)
			}
			if again := f.do(fresh(seed)); !again.equal(value) {
				t.Errorf("%s yields %v, and then %v with equal arguments", f.name, value, again)
			}
		}
	}
}

// R3: the rows of a result share no memory with each other or with the arguments.
func TestResultsApart(t *testing.T) {
	for seed := range uint64(80) {
		for _, f := range calls() {
			x := fresh(seed)
			before := x.seen()
			r, other := f.do(x), f.do(x)
			value := r.copied()
			for i, row := range r.rows {
				for j := range behind(row) {
					behind(row)[j] = -7
				}
				value.rows[i] = slices.Repeat([]int{-7}, len(row))
				if !r.equal(value) {
					t.Errorf("%s: row %d of the result shares memory with another one", f.name, i)
				}
			}
			clear(behind(r.rows))
			clear(behind(r.numbers))
			if !reflect.DeepEqual(x.seen(), before) {
				t.Errorf("%s: changes of the result reach the arguments", f.name)
			}
			if again := f.do(x); !again.equal(other) {
				t.Errorf("%s: changes of one result reach another one", f.name)
			}
		}
	}
}

// R3: a result that has the rows of what was handed in has them in memory of its own: an
// echelon form of one, a matrix that is transposed twice or multiplied by the identity.
func TestEqualResultsApart(t *testing.T) {
	const p = 7
	must := must[[][]int](t)
	want := [][]int{{1, 0, 3}, {0, 1, 4}}
	for _, c := range []struct {
		name string
		do   func(m [][]int) (result, middle [][]int)
	}{
		{"the echelon form", func(m [][]int) ([][]int, [][]int) { return must(matrix.Echelon(p, m)), nil }},
		{"the transpose of the transpose", func(m [][]int) ([][]int, [][]int) {
			middle := must(matrix.Transpose(p, m))
			return must(matrix.Transpose(p, middle)), middle
		}},
		{"the product with the identity", func(m [][]int) ([][]int, [][]int) { return must(matrix.Mul(p, m, identity(3))), nil }},
		{"the product of the identity", func(m [][]int) ([][]int, [][]int) { return must(matrix.Mul(p, identity(2), m)), nil }},
		{"the sum with nothing", func(m [][]int) ([][]int, [][]int) { return must(matrix.Sum(p, m, nil)), nil }},
		{"the sum of nothing", func(m [][]int) ([][]int, [][]int) { return must(matrix.Sum(p, nil, m)), nil }},
		{"the intersection with itself", func(m [][]int) ([][]int, [][]int) { return must(matrix.Meet(p, m, m)), nil }},
	} {
		m := copied(want)
		r, middle := c.do(m)
		args{a: m, b: middle}.spoil()
		if !same(r, want) {
			t.Errorf("%s is %s after what was handed in has changed; want %s", c.name, texts(r), texts(want))
		}
	}
}
