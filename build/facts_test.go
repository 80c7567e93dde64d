package build_test

import (
	"math/rand"
	"slices"
	"testing"

	"masthead/api"
	"masthead/build"
	"masthead/mark"
	"masthead/page"
)

// P9.5: the value of a name; the first one, if there are several.
func TestFact(t *testing.T) {
	l := named("b", number(1), "a", text("x"), "b", number(2), "", list(), "n", api.Value{})
	for _, c := range []struct {
		name string
		want api.Value
		ok   bool
	}{
		{"b", number(1), true},
		{"a", text("x"), true},
		{"", list(), true},
		{"n", api.Value{}, true},
		{"c", api.Value{}, false},
		{"B", api.Value{}, false},
		{"a ", api.Value{}, false},
	} {
		got, ok := build.Fact(l, c.name)
		if show(got) != show(c.want) || ok != c.ok {
			t.Errorf("%q: %+v %v", c.name, got, ok)
		}
	}
	if got, ok := build.Fact(nil, ""); show(got) != show(api.Value{}) || ok {
		t.Errorf("of none: %+v %v", got, ok)
	}
	v := table("a", list(texts("x")), "b", number(1))
	got, _ := build.Fact(named("v", v), "v")
	same(t, "a deep one", got, v)
	got.Keys[0], got.Items[0].Items[0].Items[0].Text = "z", "z"
	same(t, "the fact after a change of what was returned", v, table("a", list(texts("x")), "b", number(1)))
}

// P9.5: a content as a value.
func TestContentFact(t *testing.T) {
	same(t, "empty", build.ContentFact(page.Content{}), table("contents", list(), "html", safe(""), "plain", text(""), "summary", safe(""), "words", number(0)))
	c := page.Content{
		HTML: "<p>", Summary: "<i>", Plain: "&", Words: 7,
		Contents: []mark.Entry{{Level: 2, Id: "a", Text: "A"}, {Level: 1, Id: "b-2", Text: ""}},
		Reads:    []string{"x"}, Broken: []string{"y"},
	}
	contents := list(table("id", text("a"), "level", number(2), "text", text("A")), table("id", text("b-2"), "level", number(1), "text", text("")))
	same(t, "full", build.ContentFact(c), table("contents", contents, "html", safe("<p>"), "plain", text("&"), "summary", safe("<i>"), "words", number(7)))
}

// P9.5: each field and each item counts.
func TestSameValue(t *testing.T) {
	all := []api.Value{
		{}, {Kind: -1}, boolean(false), boolean(true), number(0), number(1), number(-1), text(""), text("a"), text("b"), day(0), day(1), safe(""), safe("a"), fact(""), fact("a"),
		list(), list(api.Value{}), list(number(1)), list(number(1), number(2)), list(number(2), number(1)), list(list()), list(list(), list()), list(list(number(1)), number(2)), list(list(number(1), number(2))),
		table(), table("a", number(1)), table("b", number(1)), table("a", number(2)), table("a", number(1), "b", number(1)), table("a", table("a", number(1))), table("a", table("b", number(1))),
		{Kind: api.Table, Keys: []string{"a"}}, {Kind: api.Table, Keys: []string{"a", "b"}}, {Kind: api.Table, Keys: []string{""}}, {Kind: api.Table, Items: []api.Value{number(1)}},
		{Kind: api.Nil, Bool: true}, {Kind: api.Nil, Int: 1}, {Kind: api.Nil, Text: "a"}, {Kind: api.Nil, Keys: []string{"a"}}, {Kind: api.Nil, Items: []api.Value{{}}}, {Kind: api.List, Int: 1},
	}
	for i, a := range all {
		for j, b := range all {
			if got := build.SameValue(a, b); got != (i == j) {
				t.Errorf("%+v and %+v: %v", a, b, got)
			}
		}
	}
	empty := api.Value{Kind: api.List, Items: []api.Value{}, Keys: []string{}}
	if !build.SameValue(empty, list()) || !build.SameValue(list(), empty) || !build.SameValue(list(empty), list(list())) {
		t.Error("empty lists are not nil ones")
	}
	if !build.SameValue(deep(1_000_000), deep(1_000_000)) || build.SameValue(deep(1_000_000), deep(999_999)) {
		t.Error("deep ones")
	}
}

// anyValue is a value of at most so many levels.
func anyValue(r *rand.Rand, levels int) api.Value {
	v := [...]api.Value{{}, boolean(true), number(r.Intn(2)), text("a"), text("b"), day(1), safe("a"), fact("a"), list(), table()}[r.Intn(10)]
	if levels > 1 && v.Kind >= api.List && v.Kind <= api.Table {
		for range r.Intn(3) {
			v.Items = append(v.Items, anyValue(r, levels-1))
			if v.Kind == api.Table {
				v.Keys = append(v.Keys, string(rune('a'+r.Intn(2))))
			}
		}
	}
	return v
}

// P9.5: random values.
func TestSameValueRandom(t *testing.T) {
	r := rand.New(rand.NewSource(2))
	var seen [2]int
	for range 200_000 {
		a, b := anyValue(r, 3), anyValue(r, 3)
		want := show(a) == show(b)
		if got := build.SameValue(a, b); got != want {
			t.Fatalf("%+v and %+v: %v", a, b, got)
		}
		if want {
			seen[1]++
		} else {
			seen[0]++
		}
	}
	if slices.Min(seen[:]) < 1000 {
		t.Errorf("other and equal ones: %v", seen)
	}
}
