package column_test

import (
	"testing"

	"torus/api"
	"torus/column"
)

// The chapter's examples.
func TestExamples(t *testing.T) {
	a, b := col(0, 2, 3, 1), col(3, 3, 4, 4)
	c, e := column.Add(5, a, 3, b)
	is(t, "a + 3 b", c, e, col(0, 2, 4, 2), api.OK)
	if x, e := column.Dot(5, a, b); x != 3 || e != api.OK {
		t.Errorf("Dot of a and b is %d, error %d; want 3", x, e)
	}
	if row, ok := column.Low(a); row != 3 || !ok {
		t.Errorf("the low row of a is %d, %v; want 3, true", row, ok)
	}
	rest, used, e := column.Rest(5, [][]api.Term{a, b}, col(4, 1))
	is(t, "the rest of 4:1", rest, e, col(0, 4), api.OK)
	is(t, "what it uses", used, e, col(0, 3, 1, 4), api.OK)
	basis, e := column.Basis(5, [][]api.Term{a, b})
	if want := [][]api.Term{a, col(0, 1, 4, 1)}; !same(basis, want) || e != api.OK {
		t.Errorf("the basis of a, b is %s, error %d; want %s", texts(basis), e, texts(want))
	}
	twice, _ := column.Scale(5, a, 2)
	kernel, e := column.Kernel(5, [][]api.Term{a, twice})
	if want := [][]api.Term{col(0, 3, 1, 1)}; !same(kernel, want) || e != api.OK {
		t.Errorf("the kernel of a, 2 a is %s, error %d; want %s", texts(kernel), e, texts(want))
	}
	for _, x := range []struct {
		c    []api.Term
		want api.Errno
	}{{col(0, 5), api.ErrArg}, {col(1024, 1), api.ErrArg}, {col(2, 1, 2, 1), api.ErrOrder}} {
		if e := column.Check(5, x.c); e != x.want {
			t.Errorf("Check of %s: error %d; want %d", text(x.c), e, x.want)
		}
	}
}
