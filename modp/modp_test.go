package modp_test

import (
	"math"
	"math/big"
	"slices"
	"testing"

	"torus/api"
	"torus/modp"
)

const (
	errNone  = -int(api.ErrNone)
	errPrime = -int(api.ErrPrime)
	errZero  = -int(api.ErrZero)
	badError = math.MinInt // an error with a result that is not 0 (R1)
)

// out is the result of a call as one number: an error is its negated number.
func out(x int, e api.Errno) int {
	if e == api.OK {
		return x
	}
	if x != 0 {
		return badError
	}
	return -int(e)
}

// isPrime is the definition of a prime of the document, by division.
func isPrime(p int) bool {
	if p < 2 || p > 251 {
		return false
	}
	for d := 2; d < p; d++ {
		if p%d == 0 {
			return false
		}
	}
	return true
}

func primes() []int {
	var l []int
	for p := range 252 {
		if isPrime(p) {
			l = append(l, p)
		}
	}
	return l
}

// noPrimes are numbers that are no primes up to MaxPrime; many would be if their high bits were lost.
func noPrimes() []int {
	l := []int{math.MinInt, math.MinInt + 2, math.MinInt32, -251, -7, -3, -2, -1, 0, 1, 252, 253, 254, 255, 256, 257, 258, 259, 263, 65537, 1<<16 + 3, 1<<32 + 2, 1<<32 + 7, 1<<62 + 3, math.MaxInt - 1, math.MaxInt}
	for p := 4; p <= 250; p++ {
		if !isPrime(p) {
			l = append(l, p)
		}
	}
	return l
}

// integers are arguments of all kinds for the prime p: residues, their neighbours, negative ones and both ends of int.
func integers(p int) []int {
	return []int{0, 1, 2, 3, 5, p - 2, p - 1, p, p + 1, 2*p - 1, 2 * p, -1, -2, -p + 1, -p, -p - 1, 1000003, -1000003, math.MaxInt32, math.MinInt32, 1 << 62, -1 << 62, math.MaxInt - 1, math.MaxInt, math.MinInt, math.MinInt + 1}
}

// mod is the residue of a number of any size.
func mod(p int, a *big.Int) int {
	return int(new(big.Int).Mod(a, big.NewInt(int64(p))).Int64())
}

func bigInt(a int) *big.Int { return big.NewInt(int64(a)) }

// P1.1: Prime is true for exactly the 54 primes up to 251.
func TestPrime(t *testing.T) {
	for p := -70000; p <= 70000; p++ {
		if got, want := modp.Prime(p), isPrime(p); got != want {
			t.Errorf("Prime(%d) = %v; want %v", p, got, want)
		}
	}
	for _, p := range noPrimes() {
		if modp.Prime(p) {
			t.Errorf("Prime(%d) = true; want false", p)
		}
	}
	if n := len(primes()); n != 54 {
		t.Errorf("%d primes in this test; want 54", n)
	}
}

// P1.1: Mod returns residues, also of negative integers and at both ends of int, and 0 if p is no prime.
func TestMod(t *testing.T) {
	for _, p := range primes() {
		for _, a := range append(integers(p), -3*p+2, 3*p-2) {
			if got, want := modp.Mod(p, a), mod(p, bigInt(a)); got != want {
				t.Errorf("Mod(%d, %d) = %d; want %d", p, a, got, want)
			}
		}
		for a := -2 * p; a <= 2*p; a++ {
			if r := modp.Mod(p, a); r < 0 || r >= p || (a-r)%p != 0 {
				t.Errorf("Mod(%d, %d) = %d, which is not its residue", p, a, r)
			}
		}
	}
	for _, p := range noPrimes() {
		for _, a := range []int{0, 1, -1, 5, math.MaxInt, math.MinInt} {
			if got := modp.Mod(p, a); got != 0 {
				t.Errorf("Mod(%d, %d) = %d; want 0", p, a, got)
			}
		}
	}
}

// P1.2: sums, differences and products are those of the exact integers (R7).
func TestSumsAndProducts(t *testing.T) {
	ops := []struct {
		name string
		got  func(p, a, b int) (int, api.Errno)
		want func(z, a, b *big.Int) *big.Int
	}{
		{"Add", modp.Add, (*big.Int).Add},
		{"Sub", modp.Sub, (*big.Int).Sub},
		{"Mul", modp.Mul, (*big.Int).Mul},
	}
	for _, op := range ops {
		for _, p := range primes() {
			for _, a := range integers(p) {
				for _, b := range integers(p) {
					want := mod(p, op.want(new(big.Int), bigInt(a), bigInt(b)))
					if got := out(op.got(p, a, b)); got != want {
						t.Errorf("%s(%d, %d, %d) = %d; want %d", op.name, p, a, b, got, want)
					}
				}
			}
		}
	}
}

// P1.2: the quotient by b is the only residue whose product with b is a; the inverse is the quotient of 1.
func TestDivInv(t *testing.T) {
	for _, p := range primes() {
		for _, b := range integers(p) {
			zero := mod(p, bigInt(b)) == 0
			for _, a := range integers(p) {
				got := out(modp.Div(p, a, b))
				if zero && got != errZero {
					t.Errorf("Div(%d, %d, %d) = %d; want ErrZero", p, a, b, got)
				}
				if !zero && (got < 0 || got >= p || mod(p, bigInt(got*mod(p, bigInt(b)))) != mod(p, bigInt(a))) {
					t.Errorf("Div(%d, %d, %d) = %d, whose product with %d is not %d", p, a, b, got, b, a)
				}
			}
			if got, want := out(modp.Inv(p, b)), out(modp.Div(p, 1, b)); got != want {
				t.Errorf("Inv(%d, %d) = %d; Div(%d, 1, %d) = %d", p, b, got, p, b, want)
			}
		}
	}
}

// P1.2: Sum adds all elements, none of them, and elements whose sum exceeds an int.
func TestSum(t *testing.T) {
	for _, p := range primes() {
		for _, l := range [][]int{nil, {}, {0}, {p}, {-1}, {1, 1, 1}, {math.MaxInt, math.MaxInt, math.MaxInt}, {math.MinInt, math.MinInt}, integers(p)} {
			want := new(big.Int)
			for _, a := range l {
				want.Add(want, bigInt(a))
			}
			if got := out(modp.Sum(p, l)); got != mod(p, want) {
				t.Errorf("Sum(%d, %v) = %d; want %d", p, l, got, mod(p, want))
			}
		}
	}
	long := make([]int, 100000)
	for i := range long {
		long[i] = -1
	}
	if got, want := out(modp.Sum(251, long)), mod(251, bigInt(-len(long))); got != want {
		t.Errorf("the sum of %d times -1 modulo 251 is %d; want %d", len(long), got, want)
	}
}

// R3: Sum leaves its list alone, also behind its length.
func TestSumKeepsList(t *testing.T) {
	whole := []int{9, -9, math.MaxInt, math.MinInt, 4, 5}
	before := slices.Clone(whole)
	modp.Sum(7, whole[1:4])
	if !slices.Equal(whole, before) {
		t.Errorf("Sum changed its list from %v to %v", before, whole)
	}
}

// P1.3: Pow returns a^n, with a^0 = 1 and the inverse of a^(-n) for a negative n.
func TestPow(t *testing.T) {
	for _, p := range primes() {
		for a := range p {
			x := 1 % p
			for n := range 2*p + 3 {
				if got := out(modp.Pow(p, a, n)); got != x {
					t.Errorf("Pow(%d, %d, %d) = %d; want %d", p, a, n, got, x)
				}
				if n > 0 {
					want := out(modp.Inv(p, x))
					if got := out(modp.Pow(p, a, -n)); got != want {
						t.Errorf("Pow(%d, %d, %d) = %d; want %d, the inverse of %d", p, a, -n, got, want, x)
					}
				}
				x = x * a % p
			}
		}
	}
}

// P1.3: exponents at both ends of int.
func TestPowEnds(t *testing.T) {
	for _, p := range primes() {
		for _, a := range integers(p) {
			r := mod(p, bigInt(a))
			for _, n := range []int{1 << 31, 1 << 32, 1<<62 + 1, math.MaxInt - 1, math.MaxInt, -1 << 31, -1 << 32, math.MinInt + 1, math.MinInt} {
				want := errZero
				if r != 0 || n > 0 {
					e := new(big.Int).Abs(bigInt(n))
					x := new(big.Int).Exp(bigInt(r), e, bigInt(p))
					if n < 0 {
						x.ModInverse(x, bigInt(p))
					}
					want = int(x.Int64())
				}
				if got := out(modp.Pow(p, a, n)); got != want {
					t.Errorf("Pow(%d, %d, %d) = %d; want %d", p, a, n, got, want)
				}
			}
		}
	}
}

// P1.3: the powers of 0, given by any of its integers.
func TestPowOfZero(t *testing.T) {
	for _, p := range primes() {
		for _, a := range []int{0, p, -p, 1000 * p} {
			for n, want := range map[int]int{0: 1, 1: 0, 2: 0, p - 1 + p: 0, math.MaxInt: 0, -1: errZero, -p: errZero, math.MinInt: errZero} {
				if got := out(modp.Pow(p, a, n)); got != want {
					t.Errorf("Pow(%d, %d, %d) = %d; want %d", p, a, n, got, want)
				}
			}
		}
	}
}

// powers are the powers of r from the exponent 0 on, up to the one that is 1 again.
func powers(p, r int) []int {
	l := []int{1}
	for x := r % p; x != 1; x = x * r % p {
		l = append(l, x)
	}
	return l
}

// P1.4: Order, Generator and Log by their definitions, for all residues of all primes.
func TestOrderLog(t *testing.T) {
	for _, p := range primes() {
		generator := 0
		for b := 1; b < p; b++ {
			l := powers(p, b)
			if got := out(modp.Order(p, b)); got != len(l) {
				t.Errorf("Order(%d, %d) = %d; want %d", p, b, got, len(l))
			}
			if generator == 0 && len(l) == p-1 {
				generator = b
			}
			for a := 1; a < p; a++ {
				want := slices.Index(l, a)
				if want < 0 {
					want = errNone
				}
				if got := out(modp.Log(p, b, a)); got != want {
					t.Errorf("Log(%d, %d, %d) = %d; want %d", p, b, a, got, want)
				}
			}
		}
		if got := out(modp.Generator(p)); got != generator {
			t.Errorf("Generator(%d) = %d; want %d", p, got, generator)
		}
	}
}

// P1.4: Root returns the lesser root, or ErrNone.
func TestRoot(t *testing.T) {
	for _, p := range primes() {
		for a := range p {
			want := errNone
			for x := p - 1; x >= 0; x-- {
				if x*x%p == a {
					want = x
				}
			}
			if got := out(modp.Root(p, a)); got != want {
				t.Errorf("Root(%d, %d) = %d; want %d", p, a, got, want)
			}
		}
	}
}

// P1.5 (field).
func TestField(t *testing.T) {
	for _, p := range primes() {
		step := 1 + p/17 // all triples for small primes, some for the others
		for a := 0; a < p; a += step {
			for b := 0; b < p; b++ {
				sum, product := out(modp.Add(p, a, b)), out(modp.Mul(p, a, b))
				if sum != out(modp.Add(p, b, a)) || product != out(modp.Mul(p, b, a)) {
					t.Errorf("modulo %d: %d and %d do not commute", p, a, b)
				}
				if out(modp.Sub(p, sum, b)) != a {
					t.Errorf("Sub(%d, %d, %d) does not undo Add", p, sum, b)
				}
				if b != 0 && out(modp.Div(p, product, b)) != a {
					t.Errorf("Div(%d, %d, %d) does not undo Mul", p, product, b)
				}
				for c := 0; c < p; c += step {
					checkTriple(t, p, a, b, c)
				}
			}
		}
	}
}

func checkTriple(t *testing.T, p, a, b, c int) {
	t.Helper()
	add := func(a, b int) int { return out(modp.Add(p, a, b)) }
	mul := func(a, b int) int { return out(modp.Mul(p, a, b)) }
	if add(add(a, b), c) != add(a, add(b, c)) {
		t.Errorf("modulo %d: the sum of %d, %d and %d is not associative", p, a, b, c)
	}
	if mul(mul(a, b), c) != mul(a, mul(b, c)) {
		t.Errorf("modulo %d: the product of %d, %d and %d is not associative", p, a, b, c)
	}
	if mul(a, add(b, c)) != add(mul(a, b), mul(a, c)) {
		t.Errorf("modulo %d: %d does not distribute over %d + %d", p, a, b, c)
	}
}

// P1.6 (powers).
func TestPowers(t *testing.T) {
	for _, p := range primes() {
		for a := 1; a < p; a++ {
			if got := out(modp.Pow(p, a, p-1)); got != 1 {
				t.Errorf("Pow(%d, %d, %d) = %d; want 1", p, a, p-1, got)
			}
			for _, m := range []int{0, 1, -1, 2, 17, -40, p - 1, 1 - p, 1 << 40, -1 << 40} {
				r := mod(max(p-1, 1), bigInt(m))
				if x, y := out(modp.Pow(p, a, m)), out(modp.Pow(p, a, r)); x != y {
					t.Errorf("Pow(%d, %d, %d) = %d; Pow(%d, %d, %d) = %d", p, a, m, x, p, a, r, y)
				}
				for _, n := range []int{0, 1, -1, 3, -5, p, 1 << 41} {
					product := out(modp.Mul(p, out(modp.Pow(p, a, m)), out(modp.Pow(p, a, n))))
					if got := out(modp.Pow(p, a, m+n)); got != product {
						t.Errorf("Pow(%d, %d, %d + %d) = %d; want the product %d", p, a, m, n, got, product)
					}
				}
			}
		}
		for m := range 4 { // 0^(m + n) as well
			for n := range 4 {
				product := out(modp.Mul(p, out(modp.Pow(p, 0, m)), out(modp.Pow(p, 0, n))))
				if got := out(modp.Pow(p, 0, m+n)); got != product {
					t.Errorf("Pow(%d, 0, %d + %d) = %d; want the product %d", p, m, n, got, product)
				}
			}
		}
	}
}

// P1.7 (orders).
func TestOrders(t *testing.T) {
	for _, p := range primes() {
		g := out(modp.Generator(p))
		if got := out(modp.Order(p, g)); got != p-1 {
			t.Errorf("the generator %d of %d has the order %d", g, p, got)
		}
		for a := 1; a < p; a++ {
			order := out(modp.Order(p, a))
			if order < 1 || (p-1)%order != 0 {
				t.Errorf("Order(%d, %d) = %d, which does not divide %d", p, a, order, p-1)
				continue
			}
			for n := -p; n <= p; n++ {
				if one := out(modp.Pow(p, a, n)) == 1; one != (n%order == 0) {
					t.Errorf("%d^%d = 1 modulo %d: %v, but the order is %d", a, n, p, one, order)
				}
			}
			n := out(modp.Log(p, g, a))
			if n < 0 || n > p-2 || out(modp.Pow(p, g, n)) != a {
				t.Errorf("Log(%d, %d, %d) = %d, and that power is not %d", p, g, a, n, a)
			}
		}
	}
}

// P1.8 (squares).
func TestSquares(t *testing.T) {
	for _, p := range primes() {
		for a := range p {
			root := out(modp.Root(p, a))
			square := p == 2 || a == 0 || out(modp.Pow(p, a, (p-1)/2)) == 1
			if square != (root >= 0) {
				t.Errorf("Root(%d, %d) = %d, but a square: %v", p, a, root, square)
			}
			if root >= 0 && (root*root%p != a || root > (p-root)%p) {
				t.Errorf("Root(%d, %d) = %d, which is not the lesser root", p, a, root)
			}
		}
	}
}

// P1.9 (residues).
func TestResidues(t *testing.T) {
	for _, p := range primes() {
		for _, a := range integers(p) {
			r := modp.Mod(p, a)
			for _, n := range []int{-3, 0, 1, 2, 1 << 50} {
				sameInt(t, "Pow", p, a, out(modp.Pow(p, a, n)), out(modp.Pow(p, r, n)))
			}
			sameInt(t, "Inv", p, a, out(modp.Inv(p, a)), out(modp.Inv(p, r)))
			sameInt(t, "Order", p, a, out(modp.Order(p, a)), out(modp.Order(p, r)))
			sameInt(t, "Root", p, a, out(modp.Root(p, a)), out(modp.Root(p, r)))
			for _, b := range integers(p) {
				s := modp.Mod(p, b)
				sameInt(t, "Add", p, a, out(modp.Add(p, a, b)), out(modp.Add(p, r, s)))
				sameInt(t, "Sub", p, a, out(modp.Sub(p, a, b)), out(modp.Sub(p, r, s)))
				sameInt(t, "Mul", p, a, out(modp.Mul(p, a, b)), out(modp.Mul(p, r, s)))
				sameInt(t, "Div", p, a, out(modp.Div(p, a, b)), out(modp.Div(p, r, s)))
				sameInt(t, "Log", p, a, out(modp.Log(p, a, b)), out(modp.Log(p, r, s)))
				sameInt(t, "Sum", p, a, out(modp.Sum(p, []int{a, b, a})), out(modp.Sum(p, []int{r, s, r})))
			}
		}
	}
}

func sameInt(t *testing.T, name string, p, a, got, want int) {
	t.Helper()
	if got != want {
		t.Errorf("%s modulo %d of %d is %d; of its residue it is %d", name, p, a, got, want)
	}
}

// The table of errors: ErrPrime comes before every other error, and with an error the result is 0 (R1, R2).
func TestErrPrime(t *testing.T) {
	for _, p := range noPrimes() {
		for _, a := range []int{0, 1, 3, p, -p, math.MaxInt, math.MinInt} {
			for name, got := range map[string]int{
				"Add":       out(modp.Add(p, a, 1)),
				"Sub":       out(modp.Sub(p, a, 1)),
				"Mul":       out(modp.Mul(p, a, 1)),
				"Sum":       out(modp.Sum(p, []int{a, 1})),
				"Sum()":     out(modp.Sum(p, nil)),
				"Inv":       out(modp.Inv(p, a)),
				"Order":     out(modp.Order(p, a)),
				"Div":       out(modp.Div(p, 1, a)),
				"Pow":       out(modp.Pow(p, a, -1)),
				"Pow 0":     out(modp.Pow(p, a, 0)),
				"Generator": out(modp.Generator(p)),
				"Log":       out(modp.Log(p, a, 3)),
				"Log to":    out(modp.Log(p, 3, a)),
				"Root":      out(modp.Root(p, a)),
			} {
				if got != errPrime {
					t.Errorf("%s with p = %d and %d: %d; want ErrPrime", name, p, a, got)
				}
			}
		}
	}
}

// The table of errors: ErrZero for residues 0 of all integers, and before ErrNone in Log.
func TestErrZero(t *testing.T) {
	for _, p := range primes() {
		top := math.MaxInt - math.MaxInt%p
		for _, z := range []int{0, p, -p, 5 * p, top, -top} {
			for name, got := range map[string]int{
				"Inv":      out(modp.Inv(p, z)),
				"Order":    out(modp.Order(p, z)),
				"Div":      out(modp.Div(p, 1, z)),
				"Div 0":    out(modp.Div(p, z, z)),
				"Pow":      out(modp.Pow(p, z, -1)),
				"Log base": out(modp.Log(p, z, p-1)),
				"Log of":   out(modp.Log(p, p-1, z)),
				"Log both": out(modp.Log(p, z, z)),
				"Log of 1": out(modp.Log(p, z, 1)),
			} {
				if got != errZero {
					t.Errorf("%s with p = %d and %d: %d; want ErrZero", name, p, z, got)
				}
			}
		}
	}
}

// The chapter's examples.
func TestExamples(t *testing.T) {
	for p, want := range map[int]bool{251: true, 1: false, 4: false, 253: false, 257: false} {
		if got := modp.Prime(p); got != want {
			t.Errorf("Prime(%d) = %v; want %v", p, got, want)
		}
	}
	for _, c := range []struct {
		call      string
		got, want int
	}{
		{"Mod(7, -1)", modp.Mod(7, -1), 6},
		{"Add(7, 3, 5)", out(modp.Add(7, 3, 5)), 1},
		{"Mul(7, 3, 5)", out(modp.Mul(7, 3, 5)), 1},
		{"Inv(7, 3)", out(modp.Inv(7, 3)), 5},
		{"Div(7, 2, 3)", out(modp.Div(7, 2, 3)), 3},
		{"Pow(7, 3, -1)", out(modp.Pow(7, 3, -1)), 5},
		{"Pow(7, 0, 0)", out(modp.Pow(7, 0, 0)), 1},
		{"Order(7, 2)", out(modp.Order(7, 2)), 3},
		{"Generator(7)", out(modp.Generator(7)), 3},
		{"Log(7, 3, 6)", out(modp.Log(7, 3, 6)), 3},
		{"Log(7, 2, 3)", out(modp.Log(7, 2, 3)), errNone},
		{"Root(7, 4)", out(modp.Root(7, 4)), 2},
		{"Root(7, 3)", out(modp.Root(7, 3)), errNone},
		{"Generator(2)", out(modp.Generator(2)), 1},
	} {
		if c.got != c.want {
			t.Errorf("%s = %d; want %d", c.call, c.got, c.want)
		}
	}
}

// The prime 2: its only element other than 0 is 1.
func TestPrimeTwo(t *testing.T) {
	for _, c := range []struct {
		call      string
		got, want int
	}{
		{"Add(2, 1, 1)", out(modp.Add(2, 1, 1)), 0},
		{"Sub(2, 0, 1)", out(modp.Sub(2, 0, 1)), 1},
		{"Inv(2, -1)", out(modp.Inv(2, -1)), 1},
		{"Order(2, 3)", out(modp.Order(2, 3)), 1},
		{"Log(2, 1, 1)", out(modp.Log(2, 1, 1)), 0},
		{"Root(2, 0)", out(modp.Root(2, 0)), 0},
		{"Root(2, 1)", out(modp.Root(2, 1)), 1},
		{"Pow(2, 1, MinInt)", out(modp.Pow(2, 1, math.MinInt)), 1},
		{"Pow(2, 0, 0)", out(modp.Pow(2, 0, 0)), 1},
	} {
		if c.got != c.want {
			t.Errorf("%s = %d; want %d", c.call, c.got, c.want)
		}
	}
}
