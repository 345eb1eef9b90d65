package integer

// A euclid is a stage of Euclid's algorithm for two numbers m and n, which starts with
// a = m, b = n, s = 1 and t = 0. Its successive remainders are a and b; a - s m and
// b + t m are multiples of n, or, if minus is set, a + s m and b - t m are.
type euclid struct {
	a, b  natural
	s, t  natural
	minus bool
}

// advance takes one or more steps of the algorithm for a b other than 0. As soon as b
// is 0, a is the greatest common divisor.
func (e *euclid) advance() {
	if !e.leap() {
		e.step()
	}
}

// step takes a single step of the algorithm.
func (e *euclid) step() {
	q, r := e.a.divide(e.b)
	e.a, e.b = e.b, r
	e.s, e.t = e.t, e.s.sum(q.product(e.t))
	e.minus = !e.minus
}

// leap takes all steps that the highest limbs of a and b determine (Lehmer's method),
// and reports whether there are any. It spares nearly all divisions of long numbers.
func (e *euclid) leap() bool {
	if len(e.a.limbs) != len(e.b.limbs) {
		return false
	}
	v, w := foresee(e.a.top(), e.b.top())
	if v.b == 0 {
		return false
	}
	e.a, e.b = v.mix(e.a, e.b), w.mix(e.a, e.b)
	e.s, e.t = v.abs().mix(e.s, e.t), w.abs().mix(e.s, e.t)
	e.minus = e.minus != (w.a > 0)
	return true
}

// top returns the two highest limbs of a as one number, or a itself if it is a word.
func (a natural) top() int64 {
	if a.isWord() {
		return int64(a.word)
	}
	n := len(a.limbs)
	return int64(a.limbs[n-1]*base + a.limbs[n-2])
}

// A blend stands for a times one number plus b times another one.
type blend struct {
	a, b int64
}

// foresee returns the blends that two successive remainders become as far as their
// highest limbs x and y alone determine the quotients. The first factor of w is positive
// after an odd number of steps, and only then. All factors are less than base: a factor
// is less than the remainder of the step before, and their product is at most x or y.
func foresee(x, y int64) (v, w blend) {
	v, w = blend{1, 0}, blend{0, 1}
	// The quotient of the remainders lies between these two, whatever their other limbs are.
	for y+w.a > 0 && y+w.b > 0 {
		q := (x + v.a) / (y + w.a)
		if q != (x+v.b)/(y+w.b) {
			break
		}
		v, w = w, blend{v.a - q*w.a, v.b - q*w.b}
		x, y = y, x-q*y
	}
	return v, w
}

// abs returns the blend with the absolute values of the factors.
func (v blend) abs() blend {
	return blend{max(v.a, -v.a), max(v.b, -v.b)}
}

// mix returns v.a x + v.b y, which must not be negative.
func (v blend) mix(x, y natural) natural {
	xs, ys := x.spread(), y.spread()
	limbs := make([]uint64, max(len(xs), len(ys))+2) // as the sum of two products may
	carry := int64(0)
	for i := range limbs {
		if i < len(xs) {
			carry += v.a * int64(xs[i])
		}
		if i < len(ys) {
			carry += v.b * int64(ys[i])
		}
		n := uint64(carry + base*base) // more than 0, and the same limb
		limbs[i] = n % base
		carry = int64(n/base) - base
	}
	return trim(limbs)
}
