package list_test

import (
	"math/rand"
	"slices"
	"strings"
	"testing"

	"masthead/api"
	"masthead/conf"
	"masthead/list"
)

func expectHolds(t *testing.T, c list.Cond, v api.Value, want bool) {
	t.Helper()
	if got, e := list.Holds(c, v); e != api.OK || got != want {
		t.Errorf("%s for %s: %v, error %d", show(c), show(v), got, e)
	}
}

// P4.2: what is there.
func TestThere(t *testing.T) {
	for _, x := range []struct {
		v    api.Value
		want bool
	}{
		{null(), false}, {truth(false), false}, {num(0), false}, {str(""), false}, {safe(""), false}, {listOf(), false}, {table(), false},
		{truth(true), true}, {num(-1), true}, {str(" "), true}, {safe("a"), true}, {listOf(null()), true}, {table("x", null()), true}, {day(0), true}, {fact(""), true}, {fact("a"), true},
	} {
		expectHolds(t, there("a"), table("a", x.v), x.want)
		expectHolds(t, there("0"), listOf(x.v), x.want)
		expectHolds(t, of(list.Not, there("a.b")), table("a", table("b", x.v)), !x.want)
	}
	for _, v := range []api.Value{null(), num(1), listOf(num(1)), table("b", num(1)), fact("a")} {
		expectHolds(t, there("a"), v, false)
	}
}

// P4.2: equal values are those of one kind.
func TestEqual(t *testing.T) {
	values := []api.Value{null(), truth(false), truth(true), num(0), num(1), day(0), day(1), str(""), str("a"), safe("a"), fact("a"), listOf(), table()}
	for i, v := range values {
		for j, x := range values[:9] {
			expectHolds(t, one(list.Equal, "a", x), table("a", v), i == j)
			expectHolds(t, one(list.Unlike, "a", x), table("a", v), i != j)
		}
	}
	expectHolds(t, one(list.Equal, "b", null()), table("a", num(1)), true)
	expectHolds(t, one(list.Unlike, "b", num(1)), table("a", num(1)), true)
}

// P4.2: comparisons are of one kind, which is Int, String or Day.
func TestComparisons(t *testing.T) {
	in := func(op, order int) bool {
		switch op {
		case list.Below:
			return order < 0
		case list.AtMost:
			return order <= 0
		case list.Above:
			return order > 0
		}
		return order >= 0
	}
	for op := list.Below; op <= list.AtLeast; op++ {
		for _, l := range [][]api.Value{{num(-1 << 63), num(-1), num(0), num(1<<63 - 1)}, {str(""), str("A"), str("a"), str("aa"), str("\xff")}, {day(0), day(1), day(api.MaxDay)}} {
			for i, v := range l {
				for j, x := range l {
					expectHolds(t, one(op, "a", x), table("a", v), in(op, i-j))
				}
				for _, x := range []api.Value{null(), truth(false), truth(true), num(1), str("a"), day(1)} {
					if x.Kind != v.Kind {
						expectHolds(t, one(op, "a", x), table("a", v), false)
					}
				}
			}
		}
		for _, v := range []api.Value{null(), truth(false), truth(true)} {
			expectHolds(t, one(op, "a", v), table("a", v), false)
			expectHolds(t, one(op, "a", v), table("a", truth(true)), false)
		}
		for _, v := range []api.Value{safe("a"), fact("a"), listOf(str("a")), table("a", str("a"))} {
			expectHolds(t, one(op, "a", str("a")), table("a", v), false)
		}
		expectHolds(t, one(op, "b", num(0)), table("a", num(0)), false)
	}
}

// P4.2: what a list or a string has, what is in a list, and how a string begins.
func TestHasInBegins(t *testing.T) {
	l := table("a", listOf(num(1), str("xyz"), null(), listOf(num(2)), safe("m")))
	for _, x := range []struct {
		v, value api.Value
		want     bool
	}{
		{l, num(1), true}, {l, str("xyz"), true}, {l, null(), true}, {l, str("xy"), false}, {l, num(2), false}, {l, str("m"), false}, {l, day(1), false},
		{table("a", str("xyz")), str("yz"), true}, {table("a", str("xyz")), str(""), true}, {table("a", str("xyz")), str("xz"), false}, {table("a", str("1")), num(1), false}, {table("a", str("")), null(), false}, {table("a", str("")), str(""), true},
		{table("a", safe("xyz")), str("x"), false}, {table("a", fact("xyz")), str("x"), false}, {table("a", table("b", num(1))), num(1), false}, {table("a", num(1)), num(1), false}, {table("a", listOf()), null(), false}, {table(), null(), false}, {table(), str(""), false},
	} {
		expectHolds(t, one(list.Has, "a", x.value), x.v, x.want)
	}
	some := listOf(num(1), str("x"), null(), truth(false))
	for _, x := range []struct {
		v    api.Value
		want bool
	}{
		{num(1), true}, {str("x"), true}, {null(), true}, {truth(false), true}, {truth(true), false}, {num(2), false}, {day(1), false}, {safe("x"), false}, {str(""), false}, {listOf(num(1)), false}, {listOf(), false},
	} {
		expectHolds(t, one(list.In, "a", some), table("a", x.v), x.want)
		expectHolds(t, one(list.In, "a", listOf()), table("a", x.v), false)
	}
	expectHolds(t, one(list.In, "b", some), table("a", num(7)), true)
	for _, x := range []struct {
		v     api.Value
		begin string
		want  bool
	}{
		{str("xyz"), "xy", true}, {str("xyz"), "xyz", true}, {str("xyz"), "", true}, {str("xyz"), "yz", false}, {str("xyz"), "xyzz", false}, {str(""), "", true}, {safe("xyz"), "x", false}, {fact("xyz"), "", false}, {listOf(str("x")), "x", false}, {null(), "", false},
	} {
		expectHolds(t, one(list.Begins, "a", str(x.begin)), table("a", x.v), x.want)
	}
}

// P4.2: conditions of conditions.
func TestConnected(t *testing.T) {
	v := table("no", num(0), "yes", num(1))
	yes, no := there("yes"), there("no")
	for _, x := range []struct {
		c    list.Cond
		want bool
	}{
		{of(list.And, yes, yes), true}, {of(list.And, yes, no), false}, {of(list.And, no, yes), false}, {of(list.And, yes, yes, no), false}, {of(list.And, no, no), false},
		{of(list.Or, yes, yes), true}, {of(list.Or, yes, no), true}, {of(list.Or, no, yes), true}, {of(list.Or, no, no, yes), true}, {of(list.Or, no, no), false},
		{of(list.Not, yes), false}, {of(list.Not, no), true}, {of(list.Not, of(list.Not, yes)), true}, {of(list.Not, of(list.And, yes, no)), true}, {of(list.And, yes, of(list.Or, no, of(list.Not, no))), true},
	} {
		expectHolds(t, x.c, v, x.want)
	}
}

// P4.2 and P4.4: errors of conditions and values.
func TestHoldsErrors(t *testing.T) {
	ok, e := list.Holds(list.Cond{}, other(9))
	expect(t, "a condition first", ok, e, false, api.ErrForm)
	ok, e = list.Holds(there("A"), num(1))
	expect(t, "a route", ok, e, false, api.ErrPath)
	ok, e = list.Holds(of(list.Not, there("a")), listOf(many(list.MaxInner, null())...))
	expect(t, "a large value", ok, e, false, api.ErrLarge)
	ok, e = list.Holds(of(list.Not, there("a")), day(-1))
	expect(t, "a day", ok, e, false, api.ErrRange)
	l, e := list.Where([]api.Value{num(1), day(-1)}, list.Cond{})
	expect(t, "a list first", l, e, []int{}, api.ErrRange)
	l, e = list.Where(many(list.MaxList+1, num(1)), list.Cond{})
	expect(t, "a large list first", l, e, []int{}, api.ErrLarge)
	l, e = list.Where([]api.Value{num(1)}, of(list.Not, of(list.Or, there("a"))))
	expect(t, "then a condition", l, e, []int{}, api.ErrForm)
	l, e = list.Where(nil, there("in"))
	expect(t, "a condition for nothing", l, e, []int{}, api.ErrPath)
}

// P4.4: positions, rising.
func TestWhere(t *testing.T) {
	l := items(t, "w 1; s \"a\"", "w 2", "s \"b\"", "w 1", "w \"1\"")
	for s, want := range map[string][]int{"w": {0, 1, 3, 4}, "w = 1": {0, 3}, "s": {0, 2}, "not s and w": {1, 3, 4}, "x": nil, "not x": {0, 1, 2, 3, 4}, "w < 3": {0, 1, 3}, "s in [\"b\" \"a\"] or w = \"1\"": {0, 2, 4}} {
		c, _, e := list.ReadCond(s)
		if e != api.OK {
			t.Fatalf("%s: error %d", s, e)
		}
		got, e := list.Where(l, c)
		expect(t, s, got, e, want, api.OK)
	}
	got, e := list.Where(nil, there("a"))
	expect(t, "nothing", got, e, []int{}, api.OK)
}

// plainHolds is what P4.2 says, read once more; it knows values at routes of conf alone.
func plainHolds(c list.Cond, v api.Value) bool {
	x, e := conf.Get(v, c.Route)
	if e != api.OK {
		x = null()
	}
	order := strings.Compare(x.Text, c.Value.Text)
	if x.Kind == api.Int || x.Kind == api.Day {
		order = conf.Compare(x, c.Value)
	}
	ordered := x.Kind == c.Value.Kind && slices.Contains([]int{api.Int, api.String, api.Day}, x.Kind)
	switch c.Op {
	case list.And:
		return !slices.ContainsFunc(c.Kids, func(k list.Cond) bool { return !plainHolds(k, v) })
	case list.Or:
		return slices.ContainsFunc(c.Kids, func(k list.Cond) bool { return plainHolds(k, v) })
	case list.Not:
		return !plainHolds(c.Kids[0], v)
	case list.There:
		return !slices.Contains([]string{show(null()), show(truth(false)), show(num(0)), show(str("")), show(listOf()), show(table())}, show(x))
	case list.Equal:
		return show(x) == show(c.Value)
	case list.Unlike:
		return show(x) != show(c.Value)
	case list.Below:
		return ordered && order < 0
	case list.AtMost:
		return ordered && order < 1
	case list.Above:
		return ordered && order > 0
	case list.AtLeast:
		return ordered && order > -1
	case list.Has:
		if x.Kind == api.List {
			return slices.ContainsFunc(x.Items, func(y api.Value) bool { return show(y) == show(c.Value) })
		}
		return x.Kind == api.String && c.Value.Kind == api.String && strings.Contains(x.Text, c.Value.Text)
	case list.In:
		return slices.ContainsFunc(c.Value.Items, func(y api.Value) bool { return show(y) == show(x) })
	}
	return x.Kind == api.String && strings.HasPrefix(x.Text, c.Value.Text)
}

// P4.2 and P4.4: random conditions and values.
func TestRandomConds(t *testing.T) {
	r := rand.New(rand.NewSource(3))
	held := 0
	for range 3000 {
		l := confItems(r, 30)
		c := randomCond(r, 3, 0)
		var want []int
		for i, v := range l {
			expectHolds(t, c, v, plainHolds(c, v))
			if plainHolds(c, v) {
				want = append(want, i)
				held++
			}
		}
		got, e := list.Where(l, c)
		expect(t, show(c), got, e, want, api.OK)
	}
	if held < 1000 {
		t.Errorf("only %d conditions hold", held)
	}
}
