package integer

import (
	"math/rand/v2"
	"testing"
)

// filled returns a number of n limbs that are all the same.
func filled(n int, limb uint64) natural {
	limbs := make([]uint64, n)
	for i := range limbs {
		limbs[i] = limb
	}
	return trim(limbs)
}

// P2.4: blends are exact for the greatest factors and limbs, where the result is two limbs longer.
func TestMix(t *testing.T) {
	for n := range 5 {
		for m := range 5 {
			x, y := filled(n, base-1), filled(m, base-1)
			for _, v := range []blend{{0, 0}, {1, 0}, {0, 1}, {1, 1}, {base - 1, 0}, {0, base - 1}, {base - 1, 1}, {base - 1, base - 1}} {
				want := x.product(of(uint64(v.a))).sum(y.product(of(uint64(v.b))))
				if got := v.mix(x, y); got.compare(want) != 0 {
					t.Errorf("%v of %d and %d limbs is %v; want %v", v, n, m, got, want)
				}
			}
			if got := (blend{base - 1, 1 - base}).mix(x, y); n == m && !got.IsZero() {
				t.Errorf("the difference of equal products of %d limbs is %v", n, got)
			}
			if n > m { // the greatest carries of both signs
				want := x.product(of(base - 1)).difference(y.product(of(base - 1)))
				if got := (blend{base - 1, 1 - base}).mix(x, y); got.compare(want) != 0 {
					t.Errorf("the difference of products of %d and %d limbs is %v; want %v", n, m, got, want)
				}
			}
		}
	}
}

// P2.3, P2.4: the factors of foreseen blends are less than base, also for the words that
// lead furthest, and tell whether the number of steps is odd.
func TestForesee(t *testing.T) {
	r := rand.New(rand.NewPCG(13, 14))
	greatest := int64(0)
	for range 200000 {
		x := 1 + r.Int64N(base*base-1)
		if r.IntN(3) == 0 {
			x = base*base - 1 - int64(r.IntN(1000))
		}
		y := 1 + r.Int64N(base*base-1)
		switch r.IntN(4) {
		case 0: // near to the golden section, where the quotients are 1
			y = x/base*618033988 + int64(r.IntN(1000))
		case 1:
			y = max(1, x/int64(1+r.IntN(100))-int64(r.IntN(3)))
		case 2:
			y = 1 + r.Int64N(base)
		}
		v, w := foresee(x, y)
		f, g := v.abs(), w.abs()
		greatest = max(greatest, f.a, f.b, g.a, g.b)
		if odd := v.a*w.b-v.b*w.a == -1; odd != (w.a > 0) {
			t.Fatalf("the blends of %d and %d are %v, %v; their determinant does not fit", x, y, v, w)
		}
	}
	if greatest >= base || greatest < base/2 {
		t.Errorf("the greatest factor is %d; want less than %d, and much of that", greatest, base)
	}
}
