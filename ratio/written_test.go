package ratio_test

import (
	"math/big"
	"math/rand/v2"
	"strconv"
	"strings"
	"testing"

	"torus/api"
	"torus/ratio"
)

// denoted is the number that s denotes, a number as written.
func denoted(s string) *big.Rat {
	top, bottom, _ := strings.Cut(s, "/")
	top, behind, _ := strings.Cut(top, ".")
	n, _ := new(big.Int).SetString(top+behind, 10)
	d, ok := new(big.Int).SetString(bottom, 10)
	if !ok {
		d = new(big.Int).Exp(big.NewInt(10), big.NewInt(int64(len(behind))), nil)
	}
	return new(big.Rat).SetFrac(n, d)
}

// checkParse checks Parse of a number as written.
func checkParse(t *testing.T, s string) {
	t.Helper()
	want := denoted(s)
	got, e := ratio.Parse(s)
	same(t, "Parse("+short(s)+")", got, e, want)
}

// P3.10 (P13): Parse of a rational number returns it.
func TestParseRational(t *testing.T) {
	l := append(rationals(), number(api.Rat(nines)), number(api.Rat("-"+nines)), number(api.Rat("1/"+nines)), number(api.Rat("-"+nines+"/"+ten(999))), number(api.Rat(nines[1:]+"8/"+nines)))
	r := rand.New(rand.NewPCG(17, 18))
	for _, n := range []int{500, 1000} {
		l = append(l, new(big.Rat).SetFrac(random(r, n), random(r, n)))
	}
	for _, x := range l {
		got, e := ratio.Parse(string(text(x)))
		is(t, "Parse of "+short(text(x)), got, e, text(x), api.OK)
	}
}

// P3.5: decimals and fractions, with leading zeros, common divisors and a minus sign before a 0.
func TestParse(t *testing.T) {
	for _, s := range []string{"0", "-0", "00", "-000", "0/1", "-0/7", "0/007", "0.0", "-0.000", "00.00", "1", "-1", "007", "-007", "2/4", "-2/4", "3/1", "12/4", "-012/0008", "1/1", "5/5", "001/002",
		"0.5", "-0.5", "00.50", "1.0", "1.25", "-12.500", "3.14159265358979323846", "0.000000001", "123456789.987654321", "0.1234567890123456789", "-0.999999999999999999", "1000000000000000000.0000000000000000001",
		"999999999999999999", "1000000000000000000/2", "123456789012345678901234567890/10", strings.Repeat("0", 500) + "." + strings.Repeat("0", 500) + "1", "-" + strings.Repeat("0", 1500) + "6/" + strings.Repeat("0", 1500) + "4"} {
		checkParse(t, s)
	}
	r := rand.New(rand.NewPCG(19, 20))
	for range 2000 {
		x, y := random(r, 1+r.IntN(30)), random(r, 1+r.IntN(30))
		zeros := strings.Repeat("0", r.IntN(3))
		checkParse(t, "-"+zeros+x.String()+"/"+zeros+y.String())
		checkParse(t, zeros+x.String()+"."+zeros+y.String())
	}
}

// notWritten are texts that are no numbers as written.
func notWritten() []string {
	l := []string{"", "-", ".", "/", "-.", "-/", "1.", ".5", "-.5", "1/", "/2", "-/2", "-1/", "1.-5", "1/-2", "-1/-2", "--1", "1-", "1-1", "+1", "-+1", "1/+2", "1..5", "1.5.2", "1//2", "1/2/3", "1.5/2", "1/2.5", "1./2", "1/.5", "1.5/0", "1/0.0", "1/0/0",
		"1e3", "1E3", "1.5e3", "0x10", "0b1", "1_000", "1,5", "1'000", "inf", "-inf", "NaN", "a", "1a", "a1", "1/a", "0/x", "x/0", "x0/0", " 1", "1 ", "1\n", "\t1", "1 /2", "1/ 2", "1. 5", "- 1", " ", "1\x00", "\x00",
		"\u0661", "1.\u0661", "1/\u0662", "\xff", "1\xff", "1/\xff", "1.\xff5", "\u22121", "\u00bd", "1\u20442", "1\u066b5", strings.Repeat("x", 4000), strings.Repeat("-", 4000), strings.Repeat("1", 3999) + "."}
	for c := range 256 { // each byte that has no place at the end, or between digits
		b := string([]byte{byte(c)})
		if c >= '0' && c <= '9' {
			continue
		}
		l = append(l, b, "1"+b, "1.5"+b, "1/2"+b, "-"+b+"1")
		if c != '.' && c != '/' {
			l = append(l, "1"+b+"1")
		}
	}
	return l
}

// P3.5 and the table of errors: texts that are no numbers as written.
func TestParseErrForm(t *testing.T) {
	for _, s := range notWritten() {
		got, e := ratio.Parse(s)
		is(t, "Parse("+short(s)+")", got, e, "", api.ErrForm)
	}
}

// The table of errors: denominators of zeros only, whatever the numerator.
func TestParseErrZero(t *testing.T) {
	for _, zeros := range []string{"0", "00", strings.Repeat("0", 18), strings.Repeat("0", 19), strings.Repeat("0", 1001)} {
		for _, n := range []string{"0", "1", "-1", "-0", "007", nines, nines + "9"} {
			got, e := ratio.Parse(n + "/" + zeros)
			is(t, "Parse("+short(n+"/"+zeros)+")", got, e, "", api.ErrZero)
		}
	}
	for _, s := range []string{"1/01", "1/10", "1/" + strings.Repeat("0", 1100) + "1"} {
		if _, e := ratio.Parse(s); e != api.OK {
			t.Errorf("Parse(%s): error %d", short(s), e)
		}
	}
}

// P3.5 and the table of errors: texts of 4 MaxDigits bytes, and of one byte more, for
// which ErrLong comes ahead of ErrForm and ErrZero.
func TestParseLength(t *testing.T) {
	const end = 4 * api.MaxDigits
	pad := func(front, fill, back string, n int) string {
		return front + strings.Repeat(fill, n-len(front)-len(back)) + back
	}
	for _, c := range [][4]string{{"", "0", "7", "7"}, {"-", "0", "7", "-7"}, {"", "0", "", "0"}, {"0.5", "0", "", "1/2"}, {"-0.5", "0", "", "-1/2"}, {"-", "0", ".25", "-1/4"}, {"", "0", "/12", "0"}, {"3/", "0", "12", "1/4"}, {"", "0", "3/2", "3/2"}} {
		got, e := ratio.Parse(pad(c[0], c[1], c[2], end))
		is(t, "Parse of 4000 bytes "+c[0]+".."+c[2], got, e, api.Rat(c[3]), api.OK)
		got, e = ratio.Parse(pad(c[0], c[1], c[2], end+1))
		is(t, "Parse of 4001 bytes "+c[0]+".."+c[2], got, e, "", api.ErrLong)
	}
	for _, s := range []string{"x", "1/", "-", "\xff", "."} {
		for _, n := range []int{end + 1, end + 2, 2 * end, 1 << 20} {
			got, e := ratio.Parse(pad(s, "0", s, n))
			is(t, "Parse of "+strconv.Itoa(n)+" bytes "+short(s), got, e, "", api.ErrLong)
		}
	}
	got, e := ratio.Parse(pad("1/", "0", "", end))
	is(t, "Parse of 1/0.. of 4000 bytes", got, e, "", api.ErrZero)
	got, e = ratio.Parse(pad("1/", "0", "", end+1))
	is(t, "Parse of 1/0.. of 4001 bytes", got, e, "", api.ErrLong)
}

// P3.5, R7: numbers as written with more than MaxDigits digits, of which some fit when
// they are reduced, and results of MaxDigits digits and of one more.
func TestParseLong(t *testing.T) {
	for _, s := range []string{nines, "-" + nines, nines + "9", "-" + nines + "9", nines + ".0", nines + ".5", nines + "9.0", nines[1:] + ".5", nines[2:] + ".5", "0." + nines, "0." + nines[1:], "-0." + nines[1:] + strings.Repeat("0", 2000),
		"0." + strings.Repeat("0", 998) + "1", "0." + strings.Repeat("0", 999) + "1", "0." + strings.Repeat("0", 999) + "5", "0." + strings.Repeat("0", 999) + "2", "1/" + nines, "1/" + nines + "9", "10/" + ten(1000), "1/" + ten(1000), ten(1000) + "/10", ten(1000) + "/100",
		ten(1900) + "/" + ten(1901), ten(1999) + "/3" + ten(1000)[1:], "0." + strings.Repeat("3", 998), "0." + strings.Repeat("3", 999), strings.Repeat("1", 4000), "0." + strings.Repeat("1", 3998)} {
		checkParse(t, s)
	}
	r := rand.New(rand.NewPCG(21, 22))
	for range 20 { // 1900 digits on both sides of the slash, of which few remain
		k, n, d := random(r, 1800), random(r, 100), random(r, 100)
		want := text(new(big.Rat).SetFrac(n, d))
		got, e := ratio.Parse(n.Mul(n, k).String() + "/" + d.Mul(d, k).String())
		is(t, "Parse of a fraction that can be reduced", got, e, want, api.OK)
	}
}
