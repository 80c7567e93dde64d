package list_test

import (
	"fmt"
	"math/rand"
	"strings"
	"testing"

	"masthead/api"
	"masthead/conf"
	"masthead/list"
)

func null() api.Value          { return api.Value{} }
func truth(b bool) api.Value   { return api.Value{Kind: api.Bool, Bool: b} }
func num(n int) api.Value      { return api.Value{Kind: api.Int, Int: n} }
func day(n int) api.Value      { return api.Value{Kind: api.Day, Int: n} }
func str(s string) api.Value   { return api.Value{Kind: api.String, Text: s} }
func safe(s string) api.Value  { return api.Value{Kind: api.Safe, Text: s} }
func fact(s string) api.Value  { return api.Value{Kind: api.Fact, Text: s} }
func other(kind int) api.Value { return api.Value{Kind: kind} }

func listOf(l ...api.Value) api.Value { return api.Value{Kind: api.List, Items: l} }

// table is a table of keys and values, in turn.
func table(l ...any) api.Value {
	v := api.Value{Kind: api.Table}
	for i := 0; i < len(l); i += 2 {
		v.Keys, v.Items = append(v.Keys, l[i].(string)), append(v.Items, l[i+1].(api.Value))
	}
	return v
}

// many are so many equal values.
func many(n int, v api.Value) []api.Value {
	l := make([]api.Value, n)
	for i := range l {
		l[i] = v
	}
	return l
}

// nested is a value with so many lists around it.
func nested(lists int, v api.Value) api.Value {
	for range lists {
		v = listOf(v)
	}
	return v
}

// items are the tables of settings that are known to be right.
func items(t *testing.T, l ...string) []api.Value {
	t.Helper()
	var out []api.Value
	for _, s := range l {
		v, pos, e := conf.Parse(s)
		if e != api.OK {
			t.Fatalf("Parse(%q): error %d at %v", s, e, pos)
		}
		out = append(out, v)
	}
	return out
}

// show writes anything as a line; empty and nil lists are the same.
func show(x any) string { return fmt.Sprintf("%+v", x) }

// short is the beginning of a string, for messages.
func short(s string) string {
	if len(s) > 100 {
		return fmt.Sprintf("%q.. (%d bytes)", s[:100], len(s))
	}
	return fmt.Sprintf("%q", s)
}

// expect checks what a call returns with its error; with an error that must be written as empty is.
func expect(t *testing.T, name string, got any, e api.Errno, want any, wantError api.Errno) {
	t.Helper()
	if e != wantError || show(got) != show(want) {
		t.Errorf("%s\n got %s, error %d\nwant %s, error %d", name, short(show(got)), e, short(show(want)), wantError)
	}
}

// one is a condition of a route.
func one(op int, route string, v api.Value) list.Cond {
	return list.Cond{Op: op, Route: route, Value: v}
}

// there is the condition that something is there.
func there(route string) list.Cond { return one(list.There, route, null()) }

// of is a condition of others.
func of(op int, kids ...list.Cond) list.Cond { return list.Cond{Op: op, Kids: kids} }

// nots is a condition with so many levels.
func nots(levels int) list.Cond {
	c := there("a")
	for range levels - 1 {
		c = of(list.Not, c)
	}
	return c
}

// conds are so many equal conditions.
func conds(n int, c list.Cond) []list.Cond {
	l := make([]list.Cond, n)
	for i := range l {
		l[i] = c
	}
	return l
}

// randomScalar is a value of settings without Items.
func randomScalar(r *rand.Rand) api.Value {
	texts := []string{"", "a", "b", "A b", "\n\t\"\\", "\xff", "and", "(1)", "$ # ;"}
	numbers := []int{0, 1, -1, 2, 10, -9223372036854775808, 9223372036854775807}
	switch r.Intn(6) {
	case 0:
		return null()
	case 1:
		return truth(r.Intn(2) == 0)
	case 2:
		return num(numbers[r.Intn(len(numbers))])
	case 3:
		return day([]int{0, 1, 31, 365, 400, api.MaxDay}[r.Intn(6)])
	}
	return str(texts[r.Intn(len(texts))])
}

// randomItem is a value that an item of a list can be or have.
func randomItem(r *rand.Rand, levels int) api.Value {
	switch n := r.Intn(10); {
	case n == 0:
		return safe([]string{"", "a"}[r.Intn(2)])
	case n == 1:
		return fact([]string{"", "page:/"}[r.Intn(2)])
	case n < 6 || levels <= 1:
		return randomScalar(r)
	case n == 6:
		v := listOf()
		for range r.Intn(4) {
			v.Items = append(v.Items, randomItem(r, levels-1))
		}
		return v
	}
	return randomTable(r, levels)
}

// randomTable is a table with some of few keys.
func randomTable(r *rand.Rand, levels int) api.Value {
	v := table()
	for _, key := range []string{"a", "b", "c", "d-1"} {
		if r.Intn(3) > 0 {
			v.Keys, v.Items = append(v.Keys, key), append(v.Items, randomItem(r, levels-1))
		}
	}
	return v
}

// randomItems are tables with something at few routes.
func randomItems(r *rand.Rand, most int) []api.Value {
	var l []api.Value
	for range r.Intn(most + 1) {
		l = append(l, randomTable(r, 4))
	}
	return l
}

func randomRoute(r *rand.Rand) string {
	return []string{"a", "b", "c", "d-1", "a.0", "a.b", "b.1.a", "c.a", "0", "nil"}[r.Intn(10)]
}

// randomCond is a condition with at most so many levels, which has not the Op outer.
func randomCond(r *rand.Rand, levels, outer int) list.Cond {
	op := 1 + r.Intn(13)
	if levels <= 1 {
		op = 4 + r.Intn(10)
	}
	switch {
	case op == list.Not:
		return of(op, randomCond(r, levels-1, op))
	case op < list.Not && op == outer:
		return randomCond(r, levels, outer)
	case op < list.Not:
		c := of(op)
		for range 2 + r.Intn(2) {
			c.Kids = append(c.Kids, randomCond(r, levels-1, op))
		}
		return c
	case op == list.There:
		return there(randomRoute(r))
	case op == list.In:
		v := listOf()
		for range r.Intn(4) {
			v.Items = append(v.Items, randomScalar(r))
		}
		return one(op, randomRoute(r), v)
	case op == list.Begins:
		return one(op, randomRoute(r), str([]string{"", "a", "A ", "\n"}[r.Intn(4)]))
	}
	return one(op, randomRoute(r), randomScalar(r))
}

// wide is a string of so many bytes.
func wide(n int) string { return strings.Repeat("x", n) }
