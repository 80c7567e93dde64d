package tmpl_test

import (
	"cmp"
	"math"
	"testing"

	"masthead/api"
	"masthead/tmpl"
)

// P5.8: values as strings.
func TestShow(t *testing.T) {
	for _, c := range []struct {
		v    api.Value
		want string
		e    api.Errno
	}{
		{null(), "", api.OK},
		{truth(true), "true", api.OK},
		{truth(false), "false", api.OK},
		{num(0), "0", api.OK},
		{num(-12), "-12", api.OK},
		{num(math.MinInt), "-9223372036854775808", api.OK},
		{str(""), "", api.OK},
		{str("a<\x00\xff"), "a<\x00\xff", api.OK},
		{safe("<b>"), "<b>", api.OK},
		{day(0), "1970-01-01", api.OK},
		{day(59), "1970-03-01", api.OK},
		{day(api.MaxDay), "2199-12-31", api.OK},
		{day(-1), "", api.ErrRange},
		{day(api.MaxDay + 1), "", api.ErrRange},
		{day(math.MaxInt), "", api.ErrRange},
		{listOf(), "", api.ErrKind},
		{listOf(str("a")), "", api.ErrKind},
		{table(), "", api.ErrKind},
		{fact("a"), "", api.ErrKind},
		{other(9), "", api.ErrKind},
		{other(-1), "", api.ErrKind},
	} {
		got, e := tmpl.Show(c.v)
		expect(t, show(c.v), got, e, c.want, c.e)
	}
}

// P5.8: which values count as true.
func TestTruth(t *testing.T) {
	for _, c := range []struct {
		v    api.Value
		want bool
	}{
		{null(), false},
		{truth(false), false},
		{truth(true), true},
		{num(0), false},
		{num(-1), true},
		{str(""), false},
		{str("0"), true},
		{str(" "), true},
		{safe(""), false},
		{safe("a"), true},
		{listOf(), false},
		{api.Value{Kind: api.List, Items: []api.Value{}}, false},
		{listOf(null()), true},
		{table(), false},
		{table("a", null()), true},
		{day(0), true},
		{day(-1), true},
		{fact(""), true},
		{other(9), true},
		{other(-1), true},
	} {
		if got := tmpl.Truth(c.v); got != c.want {
			t.Errorf("%+v: %v", c.v, got)
		}
	}
}

// P5.8: which values can be compared, and how.
func TestCompare(t *testing.T) {
	sorts := [][]api.Value{
		{null()},
		{truth(false), truth(true)},
		{num(math.MinInt), num(-1), num(0), num(2), num(10), num(math.MaxInt)},
		{day(-1), day(0), day(5), day(api.MaxDay + 1)},
		{str(""), safe("A"), str("B"), str("a"), safe("a\x00"), str("aa"), safe("\xff")},
	}
	for i, a := range sorts {
		for j, b := range sorts {
			for k, x := range a {
				for l, y := range b {
					want, e := cmp.Compare(k, l), api.OK
					if i != j {
						want, e = 0, api.ErrKind
					}
					got, e2 := tmpl.Compare(x, y)
					expect(t, show(x)+show(y), got, e2, want, e)
				}
			}
		}
	}
	for _, c := range [][2]api.Value{{str("a"), safe("a")}, {safe(""), str("")}, {safe("a"), safe("a")}} {
		got, e := tmpl.Compare(c[0], c[1])
		expect(t, "equal strings", got, e, 0, api.OK)
	}
	for _, v := range []api.Value{listOf(), table(), fact("a"), other(9), other(-1)} {
		for _, w := range []api.Value{v, null(), num(0), str("a")} {
			got, e := tmpl.Compare(v, w)
			expect(t, show(v), got, e, 0, api.ErrKind)
			got, e = tmpl.Compare(w, v)
			expect(t, show(v), got, e, 0, api.ErrKind)
		}
	}
}
