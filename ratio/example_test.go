package ratio_test

import (
	"slices"
	"testing"

	"torus/api"
	"torus/ratio"
)

// The chapter's examples.
func TestExamples(t *testing.T) {
	for _, a := range []api.Rat{"2/4", "3/1", "0/5", "-0", "1/-2"} {
		if ratio.Valid(a) {
			t.Errorf("%s is valid", a)
		}
	}
	for _, a := range []api.Rat{"1/2", "-3/7", "0"} {
		if !ratio.Valid(a) {
			t.Errorf("%s is not valid", a)
		}
	}
	if !ratio.End("inf") {
		t.Error("inf is no end")
	}
	x, e := ratio.Add("1/2", "1/3")
	is(t, "1/2 + 1/3", x, e, "5/6", api.OK)
	x, e = ratio.Sub("1/2", "1/2")
	is(t, "1/2 - 1/2", x, e, "0", api.OK)
	x, e = ratio.Div("1/6", "-1/3")
	is(t, "1/6 : -1/3", x, e, "-1/2", api.OK)
	x, e = ratio.Mid("0", "1/3")
	is(t, "Mid of 0 and 1/3", x, e, "1/6", api.OK)
	n, e := ratio.Floor("-1/2")
	is(t, "the floor of -1/2", n, e, "-1", api.OK)
	is(t, "Max of 7 and inf", ratio.Max("7", "inf"), api.OK, "inf", api.OK)
	for _, c := range [][3]api.Rat{{"1/3", "3/5", "1/2"}, {"-7/2", "-16/5", "-7/2"}, {"-1", "5", "0"}, {"22/7", "inf", "4"}} {
		x, e := ratio.Simplest(c[0], c[1])
		is(t, "the simplest number from "+string(c[0])+" to "+string(c[1]), x, e, c[2], api.OK)
	}
	for a, want := range map[api.Rat][]api.Int{"43/30": {"1", "2", "3", "4"}, "-1/2": {"-1", "2"}} {
		if l, e := ratio.Expand(a); !slices.Equal(l, want) || e != api.OK {
			t.Errorf("the expansion of %s is %v, error %d", a, l, e)
		}
	}
	for s, want := range map[string]api.Rat{"0.125": "1/8", "-006/4": "-3/2", "-0.0": "0"} {
		x, e := ratio.Parse(s)
		is(t, "Parse of "+s, x, e, want, api.OK)
	}
	for s, want := range map[string]api.Errno{"1.": api.ErrForm, ".5": api.ErrForm, "1/0": api.ErrZero, "1e3": api.ErrForm, "+1": api.ErrForm, "": api.ErrForm} {
		x, e := ratio.Parse(s)
		is(t, "Parse of "+s, x, e, "", want)
	}
}
