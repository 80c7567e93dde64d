package list_test

import (
	"math/rand"
	"slices"
	"testing"

	"masthead/api"
	"masthead/list"
)

// P4.7: values of two lists.
func TestSets(t *testing.T) {
	n := func(l ...int) []api.Value {
		var out []api.Value
		for _, x := range l {
			out = append(out, num(x))
		}
		return out
	}
	for _, c := range []struct{ a, b, union, meet, minus []api.Value }{
		{n(1, 2, 1), n(2, 3), n(1, 2, 3), n(2), n(1)},
		{n(3, 1, 3, 2), n(2, 4, 4, 3, 5), n(3, 1, 2, 4, 5), n(3, 2), n(1)},
		{n(1, 1), nil, n(1), nil, n(1)},
		{nil, n(2, 1, 2), n(2, 1), nil, nil},
		{nil, nil, nil, nil, nil},
		{n(1, 2), n(2, 1), n(1, 2), n(1, 2), nil},
		{n(0), []api.Value{null(), null(), day(0)}, []api.Value{num(0), null(), day(0)}, nil, n(0)},
		{[]api.Value{str("a"), safe("a"), fact("a")}, []api.Value{fact("a"), listOf(), table()}, []api.Value{str("a"), safe("a"), fact("a"), listOf(), table()}, []api.Value{fact("a")}, []api.Value{str("a"), safe("a")}},
		{[]api.Value{listOf(num(1)), table("a", listOf())}, []api.Value{table("a", listOf()), listOf(num(2))}, []api.Value{listOf(num(1)), table("a", listOf()), listOf(num(2))}, []api.Value{table("a", listOf())}, []api.Value{listOf(num(1))}},
	} {
		l, e := list.Union(c.a, c.b)
		expect(t, "Union of "+show(c.a)+" and "+show(c.b), l, e, c.union, api.OK)
		l, e = list.Meet(c.a, c.b)
		expect(t, "Meet of "+show(c.a)+" and "+show(c.b), l, e, c.meet, api.OK)
		l, e = list.Minus(c.a, c.b)
		expect(t, "Minus of "+show(c.a)+" and "+show(c.b), l, e, c.minus, api.OK)
	}
}

// P4.7: the errors of a come before those of b.
func TestSetErrors(t *testing.T) {
	large := many(list.MaxList+1, other(9))
	for name, f := range map[string]func(a, b []api.Value) ([]api.Value, api.Errno){"Union": list.Union, "Meet": list.Meet, "Minus": list.Minus} {
		for _, c := range []struct {
			a, b []api.Value
			want api.Errno
		}{
			{[]api.Value{day(-1)}, large, api.ErrRange}, {large, []api.Value{day(-1)}, api.ErrLarge}, {[]api.Value{num(1)}, large, api.ErrLarge}, {nil, []api.Value{num(1), other(9)}, api.ErrKind}, {[]api.Value{other(9)}, nil, api.ErrKind},
		} {
			l, e := f(c.a, c.b)
			expect(t, name, l, e, []api.Value{}, c.want)
		}
	}
	full := many(list.MaxList, num(1))
	for i := range full {
		full[i] = num(i)
	}
	l, e := list.Union(full, slices.Concat(full[1:], []api.Value{num(-1)}))
	if e != api.OK || len(l) != list.MaxList+1 {
		t.Errorf("as many as can be: %d, error %d", len(l), e)
	}
}

// P4.7: random lists.
func TestRandomSets(t *testing.T) {
	r := rand.New(rand.NewSource(6))
	for range 1000 {
		var a, b, union, meet, minus []api.Value
		for range r.Intn(12) {
			a, b = append(a, randomItem(r, 2)), append(b, randomItem(r, 2))
		}
		in := func(l []api.Value, v api.Value) bool {
			return slices.ContainsFunc(l, func(x api.Value) bool { return show(x) == show(v) })
		}
		for _, v := range slices.Concat(a, b) {
			if !in(union, v) {
				union = append(union, v)
			}
		}
		for _, v := range a {
			if in(b, v) && !in(meet, v) {
				meet = append(meet, v)
			} else if !in(b, v) && !in(minus, v) {
				minus = append(minus, v)
			}
		}
		l, e := list.Union(a, b)
		expect(t, "Union", l, e, union, api.OK)
		l, e = list.Meet(a, b)
		expect(t, "Meet", l, e, meet, api.OK)
		l, e = list.Minus(a, b)
		expect(t, "Minus", l, e, minus, api.OK)
	}
}
