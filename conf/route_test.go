package conf_test

import (
	"math/rand"
	"slices"
	"strings"
	"testing"

	"masthead/api"
	"masthead/conf"
)

// wrongRoutes are strings that are no routes.
func wrongRoutes() []string {
	key := strings.Repeat("k", api.MaxPart)
	return []string{
		".", "a.", ".a", "a..b", "A", "aB", "-a", "_a", "a b", "a.*", "*", "ä", "a/b", "a\n", "-1", "01", "00", "a.01", "10000", "+1", "1a", "0x1", "99999999999999999999", "a.-0",
		key + "k", "a." + key + "k", strings.Repeat("a.", conf.MaxRoute/2) + "a", strings.Repeat("a.", conf.MaxRoute/2) + "ab", strings.Repeat("a", 1_000_000), strings.Repeat("a.", 1_000_000) + "a",
	}
}

// P2.5 and section 2.3: to what routes lead.
func TestGet(t *testing.T) {
	inner := table("b", str("x"), "b-1", null(), "no", truth(true))
	l := list(num(7), inner, list(list(num(8))), null())
	v := table("a", l, "c", num(1))
	for route, want := range map[string]api.Value{
		"": v, "a": l, "c": num(1), "a.0": num(7), "a.1": inner, "a.1.b": str("x"), "a.1.b-1": null(), "a.1.no": truth(true), "a.2.0.0": num(8), "a.3": null(),
	} {
		got, e := conf.Get(v, route)
		expect(t, "Get of "+route, got, e, want, api.OK)
	}
	for _, route := range []string{"b", "d", "0", "a.4", "a.9999", "a.a", "c.d", "c.0", "a.0.0", "a.0.a", "a.1.c", "a.1.0", "a.3.a", "a.3.0", "a.2.0.0.0", "a.2.1", strings.Repeat("a.", conf.MaxRoute/2-1) + "ab"} {
		got, e := conf.Get(v, route)
		expectError(t, "Get of "+route, got, e, api.ErrNone)
	}
	for _, route := range wrongRoutes() {
		got, e := conf.Get(v, route)
		expectError(t, "Get of "+short(route), got, e, api.ErrPath)
	}
	for _, v := range []api.Value{num(1), null(), str("a"), list(), table()} {
		got, e := conf.Get(v, "")
		expect(t, "Get of the empty route", got, e, v, api.OK)
		for _, route := range []string{"0", "a"} {
			got, e = conf.Get(v, route)
			expectError(t, "Get of "+route, got, e, api.ErrNone)
		}
	}
	got, e := conf.Get(list(many(conf.MaxValues-1, num(3))...), "998")
	expect(t, "Get of 998", got, e, num(3), api.OK)
	got, e = conf.Get(day(-1), "A")
	expectError(t, "Get in no value of settings", got, e, api.ErrRange)
}

// P2.6: Set.
func TestSet(t *testing.T) {
	v := settings(t, "a [7 {b \"x\"}]; c 1; n nil; t {}")
	for route, want := range map[string]string{
		"a": "a 5; c 1; n nil; t {}", "c": "a [7 {b \"x\"}]; c 5; n nil; t {}", "b": "a [7 {b \"x\"}]; b 5; c 1; n nil; t {}", "zz": "a [7 {b \"x\"}]; c 1; n nil; t {}; zz 5", "0a": "",
		"a.0": "a [5 {b \"x\"}]; c 1; n nil; t {}", "a.1": "a [7 5]; c 1; n nil; t {}", "a.2": "a [7 {b \"x\"} 5]; c 1; n nil; t {}", "a.1.b": "a [7 {b 5}]; c 1; n nil; t {}", "a.1.a": "a [7 {a 5; b \"x\"}]; c 1; n nil; t {}", "a.1.c": "a [7 {b \"x\"; c 5}]; c 1; n nil; t {}",
		"a.2.0": "a [7 {b \"x\"} [5]]; c 1; n nil; t {}", "a.2.d.0": "a [7 {b \"x\"} {d [5]}]; c 1; n nil; t {}", "n": "a [7 {b \"x\"}]; c 1; n 5; t {}", "n.a": "a [7 {b \"x\"}]; c 1; n {a 5}; t {}", "n.0": "a [7 {b \"x\"}]; c 1; n [5]; t {}",
		"n.0.0.a.0": "a [7 {b \"x\"}]; c 1; n [[{a [5]}]]; t {}", "t.a.b": "a [7 {b \"x\"}]; c 1; n nil; t {a {b 5}}", "d.0.e": "a [7 {b \"x\"}]; c 1; d [{e 5}]; n nil; t {}",
	} {
		got, e := conf.Set(v, route, num(5))
		if want == "" {
			expectError(t, "Set at "+route, got, e, api.ErrPath)
			continue
		}
		expect(t, "Set at "+route, got, e, settings(t, want), api.OK)
	}
	x := table("a", list(num(1)))
	for name, v := range map[string]api.Value{"nil": null(), "a table": v, "a list": list(num(1)), "a number": num(1)} {
		got, e := conf.Set(v, "", x)
		expect(t, "Set at the empty route of "+name, got, e, x, api.OK)
	}
	got, e := conf.Set(null(), "a.0", null())
	expect(t, "Set of nil", got, e, table("a", list(null())), api.OK)
	got, e = conf.Set(null(), "a.0.0.0.0.0.0", num(1))
	expect(t, "Set of 8 levels", got, e, table("a", nested(6, num(1))), api.OK)
	got, e = conf.Set(list(many(conf.MaxValues-2, num(1))...), "998", num(1))
	expect(t, "Set of the last value", got, e, list(many(conf.MaxValues-1, num(1))...), api.OK)
}

// P2.6: errors of Set.
func TestSetErrors(t *testing.T) {
	v := settings(t, "a [7 {b \"x\"}]; c 1; n nil; t {}")
	for route, want := range map[string]api.Errno{
		"c.d": api.ErrKind, "c.0": api.ErrKind, "a.b": api.ErrKind, "a.0.b": api.ErrKind, "a.1.0": api.ErrKind, "a.1.b.0": api.ErrKind, "0": api.ErrKind, "t.0": api.ErrKind, "c.d.9": api.ErrKind,
		"a.3": api.ErrRange, "a.9999": api.ErrRange, "n.1": api.ErrRange, "d.1": api.ErrRange, "a.2.1": api.ErrRange, "d.0.1": api.ErrRange, "d.1.a.b": api.ErrRange, "d.e.2": api.ErrRange,
		"d.d.d.d.d.d.d.d": api.ErrDeep, "n.0.0.0.0.0.0.0": api.ErrDeep,
	} {
		got, e := conf.Set(v, route, num(5))
		expectError(t, "Set at "+route, got, e, want)
	}
	for _, route := range wrongRoutes() {
		got, e := conf.Set(v, route, num(5))
		expectError(t, "Set at "+short(route), got, e, api.ErrPath)
	}
	full := table("a", list(many(conf.MaxValues-2, num(1))...))
	for name, c := range map[string]struct {
		v, x  api.Value
		route string
		want  api.Errno
	}{
		"the first value before the second one": {day(-1), str("\x01"), "A", api.ErrRange}, "the second value before the route": {num(1), str("\x01"), "A", api.ErrByte}, "the route before kinds": {num(1), num(1), "a.A", api.ErrPath},
		"large": {full, num(1), "b", api.ErrLarge}, "large in a list": {full, num(1), "a.998", api.ErrLarge}, "no more than before": {full, num(1), "a.997", api.OK}, "a kind before large": {full, num(1), "a.b", api.ErrKind}, "a range before large": {full, list(num(1), num(2)), "a.999", api.ErrRange},
		"deep": {null(), nested(7, num(1)), "a", api.ErrDeep}, "as deep as can be": {null(), nested(6, num(1)), "a", api.OK}, "very deep": {null(), num(1), strings.Repeat("a.", conf.MaxRoute/2-1) + "a", api.ErrDeep}, "large before deep": {full, num(1), "b.b.b.b.b.b.b.b", api.ErrLarge},
	} {
		got, e := conf.Set(c.v, c.route, c.x)
		if c.want == api.OK && e == api.OK {
			continue
		}
		expectError(t, name, got, e, c.want)
	}
}

// P2.6: Remove.
func TestRemove(t *testing.T) {
	v := settings(t, "a [7 {b \"x\"; c 2} 8]; c 1; n nil")
	for route, want := range map[string]string{
		"a": "c 1; n nil", "c": "a [7 {b \"x\"; c 2} 8]; n nil", "n": "a [7 {b \"x\"; c 2} 8]; c 1", "a.0": "a [{b \"x\"; c 2} 8]; c 1; n nil", "a.1": "a [7 8]; c 1; n nil", "a.2": "a [7 {b \"x\"; c 2}]; c 1; n nil",
		"a.1.b": "a [7 {c 2} 8]; c 1; n nil", "a.1.c": "a [7 {b \"x\"} 8]; c 1; n nil",
	} {
		got, e := conf.Remove(v, route)
		expect(t, "Remove of "+route, got, e, settings(t, want), api.OK)
	}
	got, e := conf.Remove(list(num(1)), "0")
	expect(t, "Remove of the last item", got, e, list(), api.OK)
	got, e = conf.Remove(table("a", list(num(1))), "a.0")
	expect(t, "Remove of the last inner item", got, e, table("a", list()), api.OK)
	for _, route := range []string{"b", "0", "a.3", "a.b", "a.0.0", "a.0.b", "c.d", "c.0", "n.a", "n.0", "a.1.d", "a.1.0", "b.c.d", "a.5.b"} {
		got, e := conf.Remove(v, route)
		expectError(t, "Remove of "+route, got, e, api.ErrNone)
	}
	for _, route := range append(wrongRoutes(), "") {
		got, e := conf.Remove(v, route)
		expectError(t, "Remove of "+short(route), got, e, api.ErrPath)
	}
	got, e = conf.Remove(day(-1), "")
	expectError(t, "Remove in no value of settings", got, e, api.ErrRange)
}

// P2.8: routes to all values without Items.
func TestRoutes(t *testing.T) {
	for _, c := range []struct {
		v    api.Value
		want []string
	}{
		{null(), []string{""}}, {num(1), []string{""}}, {str("a"), []string{""}}, {list(), []string{""}}, {table(), []string{""}},
		{list(num(1), list(), table()), []string{"0", "1", "2"}}, {list(list(num(1), num(2)), num(3)), []string{"0.0", "0.1", "1"}},
		{settings(t, "a [7 {}]; c 1"), []string{"a.0", "a.1", "c"}}, {settings(t, "b {z nil; y [{x 1; w 2}]}; a [[[]] yes]; a-1 2000-01-01"), []string{"a.0.0", "a.1", "a-1", "b.y.0.w", "b.y.0.x", "b.z"}},
	} {
		if l, e := conf.Routes(c.v); e != api.OK || !slices.Equal(l, c.want) {
			t.Errorf("Routes(%s): %q, error %d; want %q", show(c.v), l, e, c.want)
		}
	}
	if l, e := conf.Routes(list(many(12, num(1))...)); e != api.OK || len(l) != 12 || l[9] != "9" || l[10] != "10" {
		t.Errorf("%q, error %d", l, e)
	}
	if l, e := conf.Routes(list(num(1), day(-1))); e != api.ErrRange || len(l) != 0 {
		t.Errorf("%q, error %d", l, e)
	}
}

// P2.5, P2.6 and P2.8: with one another.
func TestRoutesRandom(t *testing.T) {
	r := rand.New(rand.NewSource(4))
	for range 5000 {
		v := randomValue(r, 6)
		l, e := conf.Routes(v)
		if e != api.OK || len(l) == 0 {
			t.Fatalf("Routes(%s): %q, error %d", show(v), l, e)
		}
		for _, route := range l {
			x, e := conf.Get(v, route)
			if e != api.OK || len(x.Items) > 0 {
				t.Fatalf("Get(%s, %s): %s, error %d", show(v), route, show(x), e)
			}
			same1, e := conf.Set(v, route, x)
			expect(t, "Set of what is there", same1, e, v, api.OK)
			changed, e := conf.Set(v, route, str("new"))
			got, e2 := conf.Get(changed, route)
			if e != api.OK || e2 != api.OK || !same(got, str("new")) {
				t.Fatalf("Set(%s, %s): %s, errors %d and %d", show(v), route, show(changed), e, e2)
			}
			if route == "" {
				continue
			}
			less, e := conf.Remove(v, route)
			if e != api.OK || conf.Check(less) != api.OK {
				t.Fatalf("Remove(%s, %s): %s, error %d", show(v), route, show(less), e)
			}
		}
	}
}
