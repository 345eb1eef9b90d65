package column_test

import (
	"math/rand/v2"
	"reflect"
	"testing"

	"torus/api"
)

// spare returns a copy of l with other elements between its length and its capacity.
func spare[T any](l []T, other T) []T {
	long := append(append([]T{}, l...), other, other, other)
	return long[:len(l):len(long)]
}

// behind returns all elements of l up to its capacity.
func behind[T any](l []T) []T { return l[:cap(l)] }

// fresh returns arguments with capacities beyond their lengths, the same for the same seed.
func fresh(seed uint64) args {
	r := rand.New(rand.NewPCG(6, seed))
	p := []int{2, 7, 251}[seed%3]
	other := api.Term{Row: -5, C: 999}
	l := independent(r, p, 3+r.IntN(4), 12, 0.5)
	for i := range l {
		l[i] = spare(l[i], other)
	}
	x := args{p: p, l: spare(l, col(-9, 9)), a: spare(random(r, p, 3, 0.9), other), b: spare(random(r, p, 12, 0.5), other)}
	if seed%4 == 0 {
		x.l = append(x.l[:len(l)], x.l[0]) // with a column twice
	}
	x.k = []int{0, 1, 3, -1, 12}[seed%5]
	x.v = spare([]int{3, -1, 0, 7, 1}, 77)
	return x
}

// seen returns the whole memory of the arguments, copied.
func (x args) seen() args {
	y := args{p: x.p, k: x.k, a: append([]api.Term{}, behind(x.a)...), b: append([]api.Term{}, behind(x.b)...), v: append([]int{}, behind(x.v)...)}
	for _, c := range behind(x.l) {
		y.l = append(y.l, append([]api.Term{}, behind(c)...))
	}
	return y
}

// spoil changes the whole memory of the arguments.
func (x args) spoil() {
	ruin(x.a)
	ruin(x.b)
	ruin(x.v)
	for _, c := range behind(x.l) {
		ruin(c)
	}
	ruin(x.l)
}

// ruin sets all elements up to the capacity to zero values.
func ruin[T any](l []T) { clear(behind(l)) }

// copied returns r in other memory.
func (r result) copied() result {
	return result{cols: copied(r.cols), numbers: append([]int{}, r.numbers...), e: r.e}
}

// equal reports whether two results are the same.
func (r result) equal(s result) bool {
	return same(r.cols, s.cols) && reflect.DeepEqual(append([]int{}, r.numbers...), append([]int{}, s.numbers...)) && r.e == s.e
}

// R3: no function changes what it is handed, not even behind the ends; its result keeps
// its value when that is changed later. R4: equal arguments yield equal results.
func TestArgumentsKept(t *testing.T) {
	for seed := range uint64(60) {
		for _, f := range calls() {
			x := fresh(seed)
			before := x.seen()
			r := f.do(x)
			if !reflect.DeepEqual(x.seen(), before) {
				t.Errorf("%s changes its arguments from %v to %v", f.name, before, x.seen())
			}
			value := r.copied()
			if again := f.do(x); !again.equal(value) {
				t.Errorf("%s yields %v, and then %v", f.name, value, again)
			}
			x.spoil()
			if !r.equal(value) {
				t.Errorf("%s: the result %v becomes %v when the arguments change", f.name, value, r)
			}
			if again := f.do(fresh(seed)); !again.equal(value) {
				t.Errorf("%s yields %v, and then %v with equal arguments", f.name, value, again)
			}
		}
	}
}

// R3: the columns of a result share no memory with each other or with the arguments.
func TestResultsApart(t *testing.T) {
	for seed := range uint64(60) {
		for _, f := range calls() {
			x := fresh(seed)
			before := x.seen()
			r, other := f.do(x), f.do(x)
			value := r.copied()
			for i, c := range r.cols {
				ruin(c)
				value.cols[i] = make([]api.Term, len(c))
				if !r.equal(value) {
					t.Errorf("%s: column %d of the result shares memory with another one", f.name, i)
				}
			}
			ruin(r.cols)
			ruin(r.numbers)
			if !reflect.DeepEqual(x.seen(), before) {
				t.Errorf("%s: changes of the result reach the arguments", f.name)
			}
			if again := f.do(x); !again.equal(other) {
				t.Errorf("%s: changes of one result reach another one", f.name)
			}
		}
	}
}
