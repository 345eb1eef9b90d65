package whole_test

import (
	"math"
	"math/big"
	"math/rand/v2"
	"slices"
	"strings"
	"testing"

	"torus/api"
	"torus/whole"
)

// nines is the greatest integer: MaxDigits digits.
var nines = api.Int(strings.Repeat("9", api.MaxDigits))

// ten is the power of 10 with n zeros, one digit too long for an integer if n is MaxDigits.
func ten(n int) api.Int { return api.Int("1" + strings.Repeat("0", n)) }

// notInts are texts that are no integers (S1, R6).
func notInts() []api.Int {
	l := []api.Int{
		"", "-", "--1", "-0", "00", "007", "-007", "-00", "01", "+1", "+0", "+", "1-", "1-1",
		" 1", "1 ", "1\n", "\t1", " ", "1 000", "1,000", "1_000", "1.", "1.0", ".5", "1/2", "1e3",
		"0x10", "0b1", "inf", "NaN", "a", "1a", "a1", "1:", ":", "/", "1/", "1\x00", "\x00", "-\x00",
		"\u0661", "1\u0661", "\xff", "1\xff9", "\u22121", "\u00bd", "- 1",
		"0" + nines, nines + "9", nines + "0", "-" + nines + "9", "-0" + nines, ten(api.MaxDigits), "-" + ten(api.MaxDigits),
		nines[1:] + "x", "x" + nines[1:], nines[1:] + "-", nines[1:500] + " " + nines[501:],
		api.Int(strings.Repeat("1", 1<<20)), api.Int(strings.Repeat("0", 1000)), api.Int(strings.Repeat("-", 1000)),
	}
	for c := range 256 { // each single byte, alone and around a digit
		if b := string([]byte{byte(c)}); c < '0' || c > '9' {
			l = append(l, api.Int(b), api.Int("1"+b), api.Int("1"+b+"1"), api.Int("-"+b), api.Int("123456789012345678"+b))
			if c != '-' {
				l = append(l, api.Int(b+"1"))
			}
		}
	}
	return l
}

// magnitudes are integers from 0 on: small ones, those around powers that an
// implementation might compute with, and long ones.
func magnitudes() []*big.Int {
	var l []*big.Int
	for i := range int64(13) {
		l = append(l, big.NewInt(i))
	}
	around := func(x *big.Int) {
		for d := int64(-1); d <= 1; d++ {
			l = append(l, new(big.Int).Add(x, big.NewInt(d)))
		}
	}
	for _, n := range []int64{2, 3, 8, 9, 10, 17, 18, 19, 20, 26, 27, 36, 45, 99, 333, 450} {
		around(new(big.Int).Exp(big.NewInt(10), big.NewInt(n), nil))
	}
	for _, n := range []uint{8, 15, 16, 30, 31, 32, 52, 53, 61, 62, 63, 64, 65, 127, 128, 1024} {
		around(new(big.Int).Lsh(big.NewInt(1), n))
	}
	r := rand.New(rand.NewPCG(1, 2))
	for _, n := range []int{17, 18, 19, 20, 27, 28, 40, 72, 200, 499, 500} {
		l = append(l, random(r, n))
	}
	return l
}

// random returns an integer of n digits.
func random(r *rand.Rand, n int) *big.Int {
	text := make([]byte, n)
	for i := range text {
		text[i] = '0' + byte(r.IntN(10))
	}
	text[0] = '1' + byte(r.IntN(9))
	return number(api.Int(text))
}

// integers are the magnitudes with both signs.
func integers() []*big.Int {
	l := magnitudes()
	for _, x := range slices.Clone(l[1:]) {
		l = append(l, new(big.Int).Neg(x))
	}
	return l
}

// number is the integer with the text a.
func number(a api.Int) *big.Int {
	x, ok := new(big.Int).SetString(string(a), 10)
	if !ok {
		panic("no integer: " + a)
	}
	return x
}

// text is the text of x, which may have too many digits for an integer.
func text(x *big.Int) api.Int { return api.Int(x.String()) }

// short cuts a text for a message.
func short(a api.Int) api.Int {
	if len(a) > 60 {
		return a[:28] + ".." + a[len(a)-28:]
	}
	return a
}

// same checks a result without an error, or ErrLong if want has too many digits (R7).
func same(t *testing.T, call string, a, b, got api.Int, e api.Errno, want *big.Int) {
	t.Helper()
	w, we := text(want), api.OK
	if len(new(big.Int).Abs(want).String()) > api.MaxDigits {
		w, we = "", api.ErrLong
	}
	if got != w || e != we {
		t.Errorf("%s(%q, %q) = %q, error %d; want %q, error %d", call, short(a), short(b), short(got), e, short(w), we)
	}
}

// P2.1: Valid is true for exactly the integers of S1.
func TestValid(t *testing.T) {
	for _, a := range notInts() {
		if whole.Valid(a) {
			t.Errorf("Valid(%q) = true; want false", short(a))
		}
	}
	valid := []api.Int{"0", "1", "-1", "9", "10", "-10", "1000000000", nines, "-" + nines, ten(api.MaxDigits - 1), "-" + ten(api.MaxDigits-1)}
	for _, x := range integers() {
		valid = append(valid, text(x))
	}
	for _, a := range valid {
		if !whole.Valid(a) {
			t.Errorf("Valid(%q) = false; want true", short(a))
		}
	}
}

// P2.1: Of writes every int64, and Int64 reads it back.
func TestOfInt64(t *testing.T) {
	l := []int64{math.MinInt64, math.MinInt64 + 1, math.MaxInt64 - 1, math.MaxInt64, math.MinInt32, math.MaxInt32, math.MaxUint32}
	for n := int64(-1100); n <= 1100; n++ {
		l = append(l, n)
	}
	for n := int64(1); n <= 1e18; n *= 10 {
		l = append(l, n-1, n, n+1, -n+1, -n, -n-1, 9*n, -9*n)
	}
	for _, n := range l {
		want := text(big.NewInt(n))
		if got := whole.Of(n); got != want {
			t.Errorf("Of(%d) = %q; want %q", n, got, want)
		}
		if got, ok := whole.Int64(want); got != n || !ok {
			t.Errorf("Int64(%q) = %d, %v; want %d, true", want, got, ok, n)
		}
	}
}

// P2.1: Int64 returns 0 and false for all other texts.
func TestInt64Refuses(t *testing.T) {
	l := append(notInts(), "9223372036854775808", "-9223372036854775809", "9223372036854775817", "-9223372036854775818",
		"10000000000000000000", "-10000000000000000000", "18446744073709551615", "18446744073709551616", "18446744073709551617",
		"-18446744073709551615", "-18446744073709551616", "99999999999999999999", "100000000000000000000", "340282366920938463463374607431768211457", nines, "-"+nines)
	for _, a := range l {
		if got, ok := whole.Int64(a); got != 0 || ok {
			t.Errorf("Int64(%q) = %d, %v; want 0, false", short(a), got, ok)
		}
	}
}

// P2.1: Sign and Cmp for all pairs, and 0 if an argument is not valid.
func TestSignCmp(t *testing.T) {
	l := append(integers(), number(nines), number("-"+nines), number(nines[1:]+"8"), number(ten(api.MaxDigits-1)))
	for _, x := range l {
		a := text(x)
		if got := whole.Sign(a); got != x.Sign() {
			t.Errorf("Sign(%q) = %d; want %d", short(a), got, x.Sign())
		}
		for _, y := range l {
			if got := whole.Cmp(a, text(y)); got != x.Cmp(y) {
				t.Errorf("Cmp(%q, %q) = %d; want %d", short(a), short(text(y)), got, x.Cmp(y))
			}
		}
	}
	for _, a := range notInts() {
		if got := whole.Sign(a); got != 0 {
			t.Errorf("Sign(%q) = %d; want 0", short(a), got)
		}
		for _, b := range []api.Int{"0", "1", "-1", nines, a, "007"} {
			if x, y := whole.Cmp(a, b), whole.Cmp(b, a); x != 0 || y != 0 {
				t.Errorf("Cmp of %q and %q = %d, the other way %d; want 0", short(a), short(b), x, y)
			}
		}
	}
}

// P2.2: Neg and Abs, and the empty text if the argument is not valid.
func TestNegAbs(t *testing.T) {
	for _, x := range append(integers(), number(nines), number("-"+nines)) {
		a := text(x)
		same(t, "Neg", a, "", whole.Neg(a), api.OK, new(big.Int).Neg(x))
		same(t, "Abs", a, "", whole.Abs(a), api.OK, new(big.Int).Abs(x))
	}
	for _, a := range notInts() {
		if x, y := whole.Neg(a), whole.Abs(a); x != "" || y != "" {
			t.Errorf("Neg and Abs of %q = %q, %q; want the empty text", short(a), short(x), short(y))
		}
	}
}

// operations are the operations on two integers that give one.
var operations = []struct {
	name string
	got  func(a, b api.Int) (api.Int, api.Errno)
	want func(z, a, b *big.Int) *big.Int
}{
	{"Add", whole.Add, (*big.Int).Add},
	{"Sub", whole.Sub, (*big.Int).Sub},
	{"Mul", whole.Mul, (*big.Int).Mul},
	{"Gcd", whole.Gcd, func(z, a, b *big.Int) *big.Int {
		return z.GCD(nil, nil, new(big.Int).Abs(a), new(big.Int).Abs(b))
	}},
}

// P2.2, P2.3: sums, differences, products and greatest common divisors of all pairs.
func TestOperations(t *testing.T) {
	l := integers()
	for _, op := range operations {
		for _, x := range l {
			for _, y := range l {
				a, b := text(x), text(y)
				got, e := op.got(a, b)
				same(t, op.name, a, b, got, e, op.want(new(big.Int), x, y))
			}
		}
	}
}

// R7: results of exactly MaxDigits digits, and ErrLong for one digit more.
func TestOperationsAtTheLimit(t *testing.T) {
	root := text(new(big.Int).Sqrt(number(nines))) // its square has MaxDigits digits, that of the next integer one more
	l := []api.Int{
		"0", "1", "-1", "2", "-2", "5", "9", "10", "-10", "11", nines, "-" + nines, nines[1:], "-" + nines[1:], nines[1:] + "8", "-" + nines[1:] + "8",
		ten(api.MaxDigits - 1), "-" + ten(api.MaxDigits-1), ten(api.MaxDigits - 2), "5" + ten(api.MaxDigits - 1)[1:], "-5" + ten(api.MaxDigits - 1)[1:],
		ten(499), ten(500), "-" + ten(500), nines[:500], "-" + nines[:500], nines[:501], "4" + nines[1:],
		root, "-" + root, text(new(big.Int).Add(number(root), big.NewInt(1))),
	}
	for _, op := range operations {
		for _, a := range l {
			for _, b := range l {
				got, e := op.got(a, b)
				same(t, op.name, a, b, got, e, op.want(new(big.Int), number(a), number(b)))
			}
		}
	}
}

// P2.2: Sum of lists; only the sum itself may be too long, not those of the first elements.
func TestSum(t *testing.T) {
	var all []api.Int
	for _, x := range append(integers(), big.NewInt(77)) {
		all = append(all, text(x))
	}
	long := make([]api.Int, 20000)
	for i := range long {
		long[i] = whole.Of(math.MaxInt64 - int64(i))
	}
	for _, l := range [][]api.Int{
		nil, {}, {"0"}, {"0", "0", "0"}, {"-5"}, {nines}, {"-" + nines}, {"1", "2", "3", "-6"}, {"1", "-2", "3"}, all, long,
		{nines, "1"}, {"-" + nines, "-1"}, {nines, nines}, {nines, "0", "-1", "1"},
		{nines, "1", "-1"}, {nines, nines, "-" + nines}, {"-" + nines, "-1", "1"}, {"-" + nines, "-" + nines, nines, nines},
		{nines, nines, nines, nines, nines, nines, nines, nines, nines, nines, nines, "-" + nines},
		append(slices.Repeat([]api.Int{nines}, 3000), slices.Repeat([]api.Int{"-" + nines}, 2999)...),
	} {
		want := new(big.Int)
		for _, a := range l {
			want.Add(want, number(a))
		}
		got, e := whole.Sum(l)
		same(t, "Sum", whole.Of(int64(len(l))), "elements", got, e, want)
	}
}

// R3: Sum leaves its list alone, also behind its length.
func TestSumKeepsList(t *testing.T) {
	l := []api.Int{"9", nines, "-7", "x", "", "4"}
	before := slices.Clone(l)
	whole.Sum(l[:3])
	whole.Sum(l[1:5])
	if !slices.Equal(l, before) {
		t.Errorf("Sum changed its list from %q to %q", before, l)
	}
}

// floored is the floored quotient and the remainder of x and a y other than 0.
func floored(x, y *big.Int) (q, r *big.Int) {
	q, r = new(big.Int).QuoRem(x, y, new(big.Int))
	if r.Sign()*y.Sign() < 0 {
		q.Sub(q, big.NewInt(1))
		r.Add(r, y)
	}
	return q, r
}

// checkDivMod compares DivMod with the definition.
func checkDivMod(t *testing.T, x, y *big.Int) {
	t.Helper()
	a, b := text(x), text(y)
	q, r, e := whole.DivMod(a, b)
	if y.Sign() == 0 {
		if q != "" || r != "" || e != api.ErrZero {
			t.Errorf("DivMod(%q, 0) = %q, %q, error %d; want ErrZero", short(a), short(q), short(r), e)
		}
		return
	}
	wantQ, wantR := floored(x, y)
	same(t, "quotient: DivMod", a, b, q, e, wantQ)
	same(t, "remainder: DivMod", a, b, r, e, wantR)
}

// P2.3: DivMod of all pairs, with all signs, and at the limit of digits.
func TestDivMod(t *testing.T) {
	l := append(integers(), number(nines), number("-"+nines), number(ten(api.MaxDigits-1)), number("-"+ten(api.MaxDigits-1)))
	for _, x := range l {
		for _, y := range l {
			checkDivMod(t, x, y)
		}
	}
}

// P2.3: all small pairs by the definition: the greatest q with q b of at most a for a positive b.
func TestDivModSmall(t *testing.T) {
	for a := int64(-40); a <= 40; a++ {
		for b := int64(-13); b <= 13; b++ {
			if b == 0 {
				continue
			}
			q := int64(-100)
			for b > 0 && (q+1)*b <= a || b < 0 && (q+1)*b >= a {
				q++
			}
			gotQ, gotR, e := whole.DivMod(whole.Of(a), whole.Of(b))
			if gotQ != whole.Of(q) || gotR != whole.Of(a-q*b) || e != api.OK {
				t.Errorf("DivMod(%d, %d) = %q, %q, error %d; want %d, %d", a, b, gotQ, gotR, e, q, a-q*b)
			}
		}
	}
}

// P2.3: the greatest common divisor of all small pairs by the definition.
func TestGcdSmall(t *testing.T) {
	for a := -70; a <= 70; a++ {
		for b := -70; b <= 70; b++ {
			want := 0
			for d := 1; d <= 70 && (a != 0 || b != 0); d++ {
				if a%d == 0 && b%d == 0 {
					want = d
				}
			}
			got, e := whole.Gcd(whole.Of(int64(a)), whole.Of(int64(b)))
			if got != whole.Of(int64(want)) || e != api.OK {
				t.Errorf("Gcd(%d, %d) = %q, error %d; want %d", a, b, got, e, want)
			}
		}
	}
}

// P2.3: powers, with a^0 = 1 for every a, and exponents up to the end of int.
func TestPow(t *testing.T) {
	for _, x := range integers() {
		want := big.NewInt(1)
		for n := range 70 {
			got, e := whole.Pow(text(x), n)
			same(t, "Pow", text(x), whole.Of(int64(n)), got, e, want)
			if want.BitLen() > 4000 {
				break
			}
			want.Mul(want, x)
		}
	}
	for _, n := range []int{0, 1, 2, 5, 1000, 1001, 3320, 3321, 3322, 3323, 10000, 1 << 20, 1<<31 - 1, 1 << 31, 1 << 32, 1<<62 - 1, 1 << 62, 1<<62 + 1, math.MaxInt - 1, math.MaxInt} {
		odd := int64(n % 2)
		for _, c := range []struct{ a, want int64 }{{0, 0}, {1, 1}, {-1, 1 - 2*odd}} {
			want := c.want
			if n == 0 {
				want = 1
			}
			got, e := whole.Pow(whole.Of(c.a), n)
			same(t, "Pow", whole.Of(c.a), whole.Of(int64(n)), got, e, big.NewInt(want))
		}
		for _, a := range []int64{2, -2, 3, 10, -10, math.MaxInt64} {
			want := new(big.Int).Exp(big.NewInt(a), big.NewInt(int64(min(n, 4000))), nil)
			got, e := whole.Pow(whole.Of(a), n)
			same(t, "Pow", whole.Of(a), whole.Of(int64(n)), got, e, want)
		}
	}
}

// R7: powers of exactly MaxDigits digits and of one more, also of long bases.
func TestPowAtTheLimit(t *testing.T) {
	for _, c := range []struct {
		a api.Int
		n int
	}{
		{"10", 999}, {"10", 1000}, {"-10", 999}, {"-10", 1000}, {"9", 1047}, {"9", 1048}, {"9", 1049}, {"2", 3321}, {"2", 3322}, {"-2", 3321},
		{nines, 0}, {nines, 1}, {nines, 2}, {"-" + nines, 1}, {"-" + nines, 3}, {nines, math.MaxInt},
		{nines[:500], 2}, {ten(499), 2}, {ten(500), 2}, {"-" + ten(500), 2}, {ten(333), 3}, {ten(334), 3}, {"-" + ten(333), 3}, {nines[:333], 3}, {nines[:334], 3},
	} {
		enough := 4*api.MaxDigits/len(strings.TrimPrefix(string(c.a), "-")) + 1 // this power is too long already
		want := new(big.Int).Exp(number(c.a), big.NewInt(int64(min(c.n, enough))), nil)
		got, e := whole.Pow(c.a, c.n)
		same(t, "Pow", c.a, whole.Of(int64(c.n)), got, e, want)
	}
}

// P2.3: integer roots of all integers around squares, and of long ones.
func TestRoot(t *testing.T) {
	l := magnitudes()
	for i := range int64(2000) {
		l = append(l, big.NewInt(i))
	}
	for _, x := range magnitudes() {
		square := new(big.Int).Mul(x, x)
		l = append(l, square, new(big.Int).Add(square, big.NewInt(1)), new(big.Int).Add(square, x),
			new(big.Int).Add(square, new(big.Int).Lsh(x, 1)))
		if square.Sign() > 0 {
			l = append(l, new(big.Int).Sub(square, big.NewInt(1)))
		}
	}
	r := rand.New(rand.NewPCG(3, 4))
	for n := 1; n <= api.MaxDigits; n += 9 {
		l = append(l, random(r, n))
	}
	for _, x := range append(l, number(nines), number(ten(api.MaxDigits-1)), number(ten(api.MaxDigits-2))) {
		if len(text(x)) <= api.MaxDigits {
			got, e := whole.Root(text(x))
			same(t, "Root", text(x), "", got, e, new(big.Int).Sqrt(x))
		}
	}
}

// The chapter's examples.
func TestExamples(t *testing.T) {
	for _, a := range []api.Int{"-0", "007", "+1", "", nines + "1"} {
		if whole.Valid(a) {
			t.Errorf("Valid(%q) = true; want false", short(a))
		}
	}
	check := func(call string, e api.Errno, got []api.Int, want ...api.Int) {
		t.Helper()
		if !slices.Equal(got, want) || e != api.OK {
			t.Errorf("%s = %q, error %d; want %q", call, got, e, want)
		}
	}
	x, e := whole.Add("999", "1")
	check("Add(999, 1)", e, []api.Int{x}, "1000")
	q, r, e := whole.DivMod("-7", "2")
	check("DivMod(-7, 2)", e, []api.Int{q, r}, "-4", "1")
	q, r, e = whole.DivMod("7", "-2")
	check("DivMod(7, -2)", e, []api.Int{q, r}, "-4", "-1")
	x, e = whole.Gcd("-12", "18")
	check("Gcd(-12, 18)", e, []api.Int{x}, "6")
	g, u, v, e := whole.Bezout("12", "18")
	check("Bezout(12, 18)", e, []api.Int{g, u, v}, "6", "2", "-1")
	g, u, v, e = whole.Bezout("5", "0")
	check("Bezout(5, 0)", e, []api.Int{g, u, v}, "5", "1", "0")
	x, e = whole.Pow("2", 10)
	check("Pow(2, 10)", e, []api.Int{x}, "1024")
	x, e = whole.Root("99")
	check("Root(99)", e, []api.Int{x}, "9")
	x, e = whole.Pow("10", 999)
	check("Pow(10, 999)", e, []api.Int{x}, ten(999))
	if x, e = whole.Pow("10", 1000); x != "" || e != api.ErrLong {
		t.Errorf("Pow(10, 1000) = %q, error %d; want ErrLong", short(x), e)
	}
	x, e = whole.Sum(nil)
	check("Sum of no integers", e, []api.Int{x}, "0")
	x, e = whole.Pow("0", 0)
	check("Pow(0, 0)", e, []api.Int{x}, "1")
}
