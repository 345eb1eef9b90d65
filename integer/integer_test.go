package integer_test

import (
	"math"
	"math/big"
	"math/rand/v2"
	"strconv"
	"strings"
	"testing"

	"torus/integer"
)

// samples are integers of both signs: those around the ends of limbs and words, and long
// ones, of which many are more than any integer of package api.
func samples() []*big.Int {
	l := []*big.Int{big.NewInt(0)}
	add := func(x *big.Int) {
		l = append(l, x, new(big.Int).Neg(x))
	}
	for n := range int64(8) {
		add(big.NewInt(n + 1))
	}
	for _, n := range []int64{9, 10, 17, 18, 19, 20, 27, 36, 1000, 2500} {
		for d := int64(-1); d <= 1; d++ {
			x := new(big.Int).Exp(big.NewInt(10), big.NewInt(n), nil)
			add(x.Add(x, big.NewInt(d)))
		}
	}
	for _, x := range []int64{math.MaxInt32, math.MaxInt64} {
		add(big.NewInt(x))
	}
	r := rand.New(rand.NewPCG(1, 2))
	for _, n := range []int{12, 18, 19, 27, 28, 60, 999, 1001, 2222, 4000} {
		add(random(r, n))
	}
	return l
}

// random returns an integer of at most n digits.
func random(r *rand.Rand, n int) *big.Int {
	text := make([]byte, n)
	for i := range text {
		text[i] = '0' + byte(r.IntN(10))
	}
	x, _ := new(big.Int).SetString(string(text), 10)
	return x
}

// number returns x as a number.
func number(x *big.Int) integer.Number {
	digits, minus := strings.CutPrefix(x.String(), "-")
	return integer.Read(digits, minus)
}

// same checks a result by its text.
func same(t *testing.T, call string, x, y *big.Int, got integer.Number, want *big.Int) {
	t.Helper()
	if got.Text() != want.String() {
		t.Errorf("%.50v %s %.50v is %.50s; want %.50v", x, call, y, got.Text(), want)
	}
}

// Texts, digits, signs and negatives.
func TestNumber(t *testing.T) {
	for _, x := range samples() {
		n := number(x)
		same(t, "as", x, x, n, x)
		same(t, "negated", x, x, n.Negative(), new(big.Int).Neg(x))
		same(t, "twice negated", x, x, n.Negative().Negative(), x)
		if got := len(strings.TrimPrefix(x.String(), "-")); n.Digits() != got {
			t.Errorf("%.50v has %d digits; want %d", x, n.Digits(), got)
		}
		if n.Sign() != x.Sign() || n.IsZero() != (x.Sign() == 0) {
			t.Errorf("%.50v has the sign %d, and is 0: %t", x, n.Sign(), n.IsZero())
		}
		for _, zeros := range []int{1, 8, 9, 17, 18, 1000} {
			digits, minus := strings.CutPrefix(x.String(), "-")
			same(t, "with zeros", x, x, integer.Read(strings.Repeat("0", zeros)+digits, minus), x)
		}
	}
	for _, x := range []int{0, 1, -1, 999999999, -1000000000, 999999999999999999, -1000000000000000000, math.MaxInt, math.MinInt + 1, math.MinInt} {
		if got := integer.Of(x).Text(); got != strconv.Itoa(x) {
			t.Errorf("%d has the text %s", x, got)
		}
	}
	for _, zero := range []string{"0", "00", strings.Repeat("0", 40)} {
		if n := integer.Read(zero, true); n.Sign() != 0 || n.Text() != "0" || n.Compare(integer.Number{}) != 0 {
			t.Errorf("-%s has the sign %d and the text %s", zero, n.Sign(), n.Text())
		}
	}
}

// The operations on all pairs.
func TestOperations(t *testing.T) {
	l := samples()
	for i, x := range l {
		for j := i % 2; j < len(l); j += 2 {
			checkPair(t, x, l[j])
		}
	}
}

// checkPair checks the operations on x and y.
func checkPair(t *testing.T, x, y *big.Int) {
	t.Helper()
	a, b := number(x), number(y)
	same(t, "+", x, y, a.Plus(b), new(big.Int).Add(x, y))
	same(t, "-", x, y, a.Minus(b), new(big.Int).Sub(x, y))
	same(t, "*", x, y, a.Times(b), new(big.Int).Mul(x, y))
	if got := a.Compare(b); got != x.Cmp(y) {
		t.Errorf("%.50v compared with %.50v is %d", x, y, got)
	}
	g := new(big.Int).GCD(nil, nil, new(big.Int).Abs(x), new(big.Int).Abs(y))
	same(t, "gcd", x, y, a.Gcd(b), g)
	if y.Sign() == 0 {
		return
	}
	q, r := a.DivMod(b)
	same(t, "/ and back", x, y, q.Times(b).Plus(r), x)
	rest, _ := new(big.Int).SetString(r.Text(), 10)
	if rest.CmpAbs(y) >= 0 || rest.Sign() == -y.Sign() {
		t.Errorf("%.50v and %.50v leave the remainder %.50s", x, y, r.Text())
	}
	d, u, v := a.Bezout(b)
	same(t, "gcd of Bezout", x, y, d, g)
	same(t, "a u + b v", x, y, a.Times(u).Plus(b.Times(v)), g)
	end := number(g.Div(new(big.Int).Abs(y), g))
	if u.Sign() < 0 || u.Compare(end) >= 0 {
		t.Errorf("%.50v and %.50v have the factor %.50s", x, y, u.Text())
	}
}

// Pairs of all lengths up to those that pass the end of words by far.
func TestLengths(t *testing.T) {
	r := rand.New(rand.NewPCG(3, 4))
	for n := 1; n <= 80; n++ {
		for m := 1; m <= 80; m++ {
			x, y := random(r, n), random(r, m)
			if r.IntN(2) == 0 {
				x.Neg(x)
			}
			if r.IntN(2) == 0 {
				y.Neg(y)
			}
			checkPair(t, x, y)
		}
	}
}
