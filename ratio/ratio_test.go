package ratio_test

import (
	"math"
	"math/big"
	"math/rand/v2"
	"slices"
	"strconv"
	"strings"
	"testing"

	"torus/api"
	"torus/ratio"
)

// nines is the greatest integer: MaxDigits digits.
var nines = strings.Repeat("9", api.MaxDigits)

// ten is the power of 10 with n zeros, one digit too long if n is MaxDigits.
func ten(n int) string { return "1" + strings.Repeat("0", n) }

// notRats are texts that are no rational numbers (S1, R6), and no ends either.
func notRats() []api.Rat {
	l := []api.Rat{
		"2/4", "-2/4", "3/1", "-3/1", "0/1", "0/5", "-0", "-0/5", "1/-2", "-1/-2", "", "-", "/", "1/", "/2", "-/2", "1//2", "1/2/3",
		"00", "007", "-007", "01/2", "1/02", "1/00", "1/0", "0/0", "-1/0", "1/1", "-1/1", "6/3", "6/4", "+1", "+1/2", "1/+2",
		" 1", "1 ", "1\n", "\t1", "1/ 2", "1 /2", "1/2 ", " ", "1/2\x00", "\x00", "0.5", "1.0", "1.", ".5", "1e3", "1,5", "1_0", "0x1", "1:2", "a", "1a", "a/2", "1/a",
		"INF", "Inf", "-inf", "+inf", "inf ", " inf", "infinity", "NaN", "inf/2", "1/inf", "inf/inf",
		"\u0661", "1/\u0662", "\xff", "1/\xff2", "\u22121", "\u00bd", "1\u20442",
		api.Rat(nines + "9"), api.Rat("-" + nines + "9"), api.Rat(nines + "9/2"), api.Rat("1/" + nines + "9"), api.Rat("1/" + ten(api.MaxDigits)),
		api.Rat(ten(api.MaxDigits) + "/3"), api.Rat(nines + "/3"), api.Rat("3/" + nines), api.Rat(nines + "/" + nines), api.Rat("-" + nines + "/" + nines[1:] + "0"),
		api.Rat(strings.Repeat("1", 1<<20)), api.Rat(strings.Repeat("/", 2000)), api.Rat("1/" + strings.Repeat("1", 1<<20)),
	}
	for c := range 256 { // each single byte, alone and beside digits
		b := api.Rat([]byte{byte(c)})
		if c >= '0' && c <= '9' {
			continue
		}
		l = append(l, b, "1"+b, "1/2"+b, "1/"+b+"2", b+b+"1")
		if c != '/' {
			l = append(l, "1"+b+"1")
		}
		if c != '-' {
			l = append(l, b+"1", b+"1/2")
		}
	}
	return l
}

// random returns an integer of n digits.
func random(r *rand.Rand, n int) *big.Int {
	text := make([]byte, n)
	for i := range text {
		text[i] = '0' + byte(r.IntN(10))
	}
	text[0] = '1' + byte(r.IntN(9))
	x, _ := new(big.Int).SetString(string(text), 10)
	return x
}

// rationals are rational numbers of both signs: small ones, those whose parts need a
// machine word or a little more, and long ones.
func rationals() []*big.Rat {
	l := []*big.Rat{new(big.Rat)}
	add := func(n, d *big.Int) {
		x := new(big.Rat).SetFrac(n, d)
		l = append(l, x, new(big.Rat).Neg(x))
	}
	for n := int64(1); n <= 6; n++ {
		for d := int64(1); d <= 6; d++ {
			if gcd(n, d) == 1 {
				add(big.NewInt(n), big.NewInt(d))
			}
		}
	}
	r := rand.New(rand.NewPCG(1, 2))
	for _, n := range []int{1, 8, 9, 10, 17, 18, 19, 27, 36, 100, 249} {
		for _, d := range []int{1, 9, 18, 19, 40, 249} {
			add(random(r, n), random(r, d))
		}
	}
	for _, n := range []int64{9, 18, 19} {
		x := new(big.Int).Exp(big.NewInt(10), big.NewInt(n), nil)
		add(x, big.NewInt(1))
		add(x, big.NewInt(7))
		add(big.NewInt(7), x)
		add(new(big.Int).Sub(x, big.NewInt(1)), x)
	}
	return l
}

// gcd is the greatest common divisor of two positive integers.
func gcd(a, b int64) int64 {
	for b != 0 {
		a, b = b, a%b
	}
	return a
}

// number is the rational number with the text a.
func number(a api.Rat) *big.Rat {
	x, ok := new(big.Rat).SetString(string(a))
	if !ok {
		panic("no number: " + short(string(a)))
	}
	return x
}

// text is the text of x, whose numerator and denominator may be too long.
func text(x *big.Rat) api.Rat { return api.Rat(x.RatString()) }

// fits reports whether no part of x is too long.
func fits(x *big.Rat) bool {
	return len(new(big.Int).Abs(x.Num()).String()) <= api.MaxDigits && len(x.Denom().String()) <= api.MaxDigits
}

// short cuts a text for a message.
func short[S ~string](a S) string {
	if len(a) > 60 {
		return strconv.Quote(string(a[:28]) + ".." + string(a[len(a)-28:]))
	}
	return strconv.Quote(string(a))
}

// shorts cuts the texts of a list for a message.
func shorts[S ~string](l []S) string {
	var b []string
	for _, a := range l[:min(len(l), 8)] {
		b = append(b, short(a))
	}
	return "[" + strings.Join(b, ", ") + "] of " + strconv.Itoa(len(l))
}

// same checks a result: want, or ErrLong if a part of want is too long (R7).
func same(t *testing.T, call string, got api.Rat, e api.Errno, want *big.Rat) {
	t.Helper()
	w, we := text(want), api.OK
	if !fits(want) {
		w, we = "", api.ErrLong
	}
	is(t, call, got, e, w, we)
}

// is checks a result and an error, with which there must be no result (R1).
func is[S ~string](t *testing.T, call string, got S, e api.Errno, want S, we api.Errno) {
	t.Helper()
	if got != want || e != we {
		t.Errorf("%s = %s, error %d; want %s, error %d", call, short(got), e, short(want), we)
	}
}

// P3.1: Valid is true for exactly the rational numbers of S1, End for inf as well.
func TestValid(t *testing.T) {
	valid := []api.Rat{"0", "1", "-1", "7", "-12", "1/2", "-3/7", "2/3", "3/2", "-7/2", "1/10", "10/9", "4/9", "-4/9", "999999999999999999/1000000000000000000",
		api.Rat(nines), api.Rat("-" + nines), api.Rat("1/" + nines), api.Rat("-1/" + nines), api.Rat(nines + "/2"), api.Rat("-" + nines + "/" + ten(api.MaxDigits-1)),
		api.Rat(nines[1:] + "8/" + nines), api.Rat(ten(api.MaxDigits-1) + "/" + nines)}
	for _, x := range rationals() {
		valid = append(valid, text(x))
	}
	for _, a := range valid {
		if !ratio.Valid(a) || !ratio.End(a) {
			t.Errorf("Valid(%s) = %t, End = %t; want true", short(a), ratio.Valid(a), ratio.End(a))
		}
	}
	for _, a := range notRats() {
		if ratio.Valid(a) || ratio.End(a) {
			t.Errorf("Valid(%s) = %t, End = %t; want false", short(a), ratio.Valid(a), ratio.End(a))
		}
	}
	if ratio.Valid(api.Inf) || !ratio.End(api.Inf) {
		t.Errorf("Valid(inf) = %t, End = %t; want false, true", ratio.Valid(api.Inf), ratio.End(api.Inf))
	}
}

// P3.1, S1: of all fractions of small numbers only the reduced ones are valid.
func TestValidSmall(t *testing.T) {
	for n := int64(-40); n <= 40; n++ {
		for d := int64(-2); d <= 40; d++ {
			a := api.Rat(strconv.FormatInt(n, 10) + "/" + strconv.FormatInt(d, 10))
			want := n != 0 && d >= 2 && gcd(max(n, -n), d) == 1
			if ratio.Valid(a) != want {
				t.Errorf("Valid(%s) = %t", a, !want)
			}
		}
	}
}

// P3.1: Of.
func TestOf(t *testing.T) {
	for _, n := range []int64{0, 1, -1, 9, 10, -10, 999999999, 1000000000, math.MaxInt32, math.MinInt32, math.MaxInt64 - 1, math.MaxInt64, math.MinInt64, math.MinInt64 + 1} {
		if got := ratio.Of(n); string(got) != strconv.FormatInt(n, 10) || !ratio.Valid(got) {
			t.Errorf("Of(%d) = %s", n, got)
		}
	}
}

// P3.1: Num, Den and Sign.
func TestParts(t *testing.T) {
	l := append(rationals(), number(api.Rat("-1/"+nines)), number(api.Rat(nines)), number(api.Rat("-"+nines+"/"+ten(999))))
	for _, x := range l {
		a := text(x)
		if n, d := ratio.Num(a), ratio.Den(a); string(n) != x.Num().String() || string(d) != x.Denom().String() {
			t.Errorf("Num(%s) = %s, Den = %s", short(a), short(n), short(d))
		}
		if s := ratio.Sign(a); s != x.Sign() {
			t.Errorf("Sign(%s) = %d; want %d", short(a), s, x.Sign())
		}
	}
	for _, a := range append(notRats(), api.Inf) {
		if n, d, s := ratio.Num(a), ratio.Den(a), ratio.Sign(a); n != "" || d != "" || s != 0 {
			t.Errorf("Num(%s) = %s, Den = %s, Sign = %d; want empty texts and 0", short(a), short(n), short(d), s)
		}
	}
}

// checkOrder checks Cmp, Min and Max for the ends a and b.
func checkOrder(t *testing.T, a, b api.Rat, want int) {
	t.Helper()
	low, high := a, b
	if want > 0 {
		low, high = b, a
	}
	if c := ratio.Cmp(a, b); c != want {
		t.Errorf("Cmp(%s, %s) = %d; want %d", short(a), short(b), c, want)
	}
	if x, y := ratio.Min(a, b), ratio.Max(a, b); x != low || y != high {
		t.Errorf("Min(%s, %s) = %s, Max = %s; want %s, %s", short(a), short(b), short(x), short(y), short(low), short(high))
	}
}

// P3.1: Cmp, Min and Max of all pairs of ends.
func TestCmp(t *testing.T) {
	l := rationals()
	for _, x := range l {
		for _, y := range l {
			checkOrder(t, text(x), text(y), x.Cmp(y))
		}
		checkOrder(t, text(x), api.Inf, -1)
		checkOrder(t, api.Inf, text(x), 1)
	}
	checkOrder(t, api.Inf, api.Inf, 0)
}

// P3.1, R7, R8: numbers with the longest parts, whose products are too long, are compared as numbers.
func TestCmpLong(t *testing.T) {
	one := api.Rat(nines[1:] + "8/" + nines) // nearly 1
	l := []api.Rat{api.Rat("-" + nines), api.Rat("-" + nines + "/2"), "-2", "-1", "-" + one, api.Rat("-1/" + nines), "0", api.Rat("1/" + nines), api.Rat("1/" + ten(999)),
		"9/10", "99/100", one, "1", api.Rat(nines + "/" + nines[1:] + "8"), "10/9", "2", api.Rat(nines + "/2"), api.Rat(nines), api.Inf}
	for i, a := range l {
		for j, b := range l {
			want := 0
			if i != j {
				want = (i - j) / max(i-j, j-i)
			}
			checkOrder(t, a, b, want)
		}
	}
}

// P3.1: Cmp is 0, and Min and Max are empty, if one of the texts is no end.
func TestCmpInvalid(t *testing.T) {
	for _, bad := range notRats() {
		for _, a := range []api.Rat{"0", "1", "-1/2", api.Inf, bad, "2/4"} {
			if ratio.Cmp(bad, a) != 0 || ratio.Cmp(a, bad) != 0 {
				t.Errorf("Cmp of %s and %s is not 0", short(bad), short(a))
			}
			if got := ratio.Min(bad, a) + ratio.Min(a, bad) + ratio.Max(bad, a) + ratio.Max(a, bad); got != "" {
				t.Errorf("Min and Max of %s and %s are %s", short(bad), short(a), short(got))
			}
		}
	}
}

// R3, R4: lists are not modified, not even behind their ends, and equal arguments yield
// equal results that share no memory.
func TestMemory(t *testing.T) {
	rats := []api.Rat{"1/2", "-7/3", "5", "x"}
	ints := []api.Int{"-2", "3", "4", "y"}
	before, beforeInts := slices.Clone(rats), slices.Clone(ints)
	for range 2 {
		s, e := ratio.Sum(rats[:3])
		is(t, "Sum of 1/2, -7/3, 5", s, e, "19/6", api.OK)
		c, e := ratio.Collapse(ints[:3])
		is(t, "Collapse of -2, 3, 4", c, e, "-22/13", api.OK)
	}
	if !slices.Equal(rats, before) || !slices.Equal(ints, beforeInts) {
		t.Errorf("lists are changed to %v, %v", rats, ints)
	}
	for range 2 {
		x, e := ratio.Expand("43/30")
		if !slices.Equal(x, []api.Int{"1", "2", "3", "4"}) || e != api.OK {
			t.Errorf("the expansion of 43/30 is %v, error %d", x, e)
		}
		x[0] = "x"
	}
}
