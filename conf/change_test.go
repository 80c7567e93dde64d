package conf_test

import (
	"fmt"
	"math/rand"
	"strings"
	"testing"

	"masthead/api"
	"masthead/conf"
)

// P2.7: Merge.
func TestMerge(t *testing.T) {
	for _, c := range [][3]string{
		{"", "", ""}, {"a 1", "", "a 1"}, {"", "a 1", "a 1"}, {"a 1", "a 2", "a 1"}, {"b 1", "a 2; c 3", "a 2; b 1; c 3"}, {"a nil", "a 1", "a nil"}, {"a 1", "a nil", "a 1"}, {"a nil", "a {b 1}", "a nil"},
		{"a {b 1}", "a {b 2; c 3}", "a {b 1; c 3}"}, {"a {}", "a {b 2}", "a {b 2}"}, {"a {b {c 1}}", "a {b {d 2}; e 3}; f 4", "a {b {c 1; d 2}; e 3}; f 4"}, {"a [1]", "a [2 3]", "a [1]"}, {"a [{b 1}]", "a [{c 2}]", "a [{b 1}]"}, {"a {b 1}", "a [2]", "a {b 1}"}, {"a 1", "a {b 2}", "a 1"}, {"a {b 2}", "a 1", "a {b 2}"}, {"a []", "a [1]", "a []"},
	} {
		got, e := conf.Merge(settings(t, c[0]), settings(t, c[1]))
		expect(t, fmt.Sprintf("Merge of %q", c), got, e, settings(t, c[2]), api.OK)
	}
	for _, near := range []api.Value{null(), num(1), list(num(1)), list()} {
		got, e := conf.Merge(near, table("a", num(1)))
		expect(t, "Merge of another kind", got, e, near, api.OK)
		got, e = conf.Merge(table("a", num(1)), near)
		expect(t, "Merge with another kind", got, e, table("a", num(1)), api.OK)
	}
}

// P2.7: errors of Merge.
func TestMergeErrors(t *testing.T) {
	half := many(500, num(1))
	got, e := conf.Merge(table("a", list(half[:498]...)), table("b", list(half[:499]...)))
	expect(t, "as much as can be", got, e, table("a", list(half[:498]...), "b", list(half[:499]...)), api.OK)
	for name, c := range map[string]struct {
		near, far api.Value
		want      api.Errno
	}{
		"large": {table("a", list(half[:499]...)), table("b", list(half[:499]...)), api.ErrLarge}, "the near one": {day(-1), str("\x01"), api.ErrRange}, "the far one": {num(1), str("\x01"), api.ErrByte},
	} {
		got, e := conf.Merge(c.near, c.far)
		expectError(t, name, got, e, c.want)
	}
}

// showChanges writes changes as one short line.
func showChanges(l []conf.Change) string {
	var parts []string
	for _, c := range l {
		s := c.Route + "=" + show(c.Value)
		if c.Gone {
			s = "-" + c.Route
			if !same(c.Value, null()) {
				s += "!" + show(c.Value)
			}
		}
		parts = append(parts, s)
	}
	return strings.Join(parts, ", ")
}

// P2.9: the changes that Diff finds.
func TestDiff(t *testing.T) {
	for _, c := range [][3]string{
		{"", "", ""}, {"a 1; b {c [1]}", "a 1; b {c [1]}", ""}, {"a 1", "", "-a"}, {"", "a 1", "a=1"}, {"", "a nil", "a=nil"}, {"a 1", "a 2", "a=2"}, {"a 1", "a nil", "a=nil"}, {"a nil", "", "-a"}, {"a 1", "a \"1\"", `a="1"`}, {"a 1", "a yes", "a=true"},
		{"b 1", "a 1; c 1", "-b, a=1, c=1"}, {"a 1; b {c 1; d 2; e 3}; f 4", "a 2; b {d 3; e 3; g 5}", "-b.c, -f, a=2, b.d=3, b.g=5"}, {"z {y 1}; a 1", "b 2; z {x 2}", "-a, -z.y, b=2, z.x=2"},
		{"a {b {c 1}}", "a {b {c 2}}", "a.b.c=2"}, {"a {b 1}", "a {}", "-a.b"}, {"a {}", "a {b 1}", "a.b=1"}, {"a {b 1}", "a 1", "a=1"}, {"a 1", "a {b 1}", "a={b:1}"}, {"a {}", "a nil", "a=nil"}, {"a nil", "a {}", "a={}"}, {"a []", "a {}", "a={}"},
		{"a [1 2]", "a [1 3]", "a=[1 3]"}, {"a [{b 1}]", "a [{b 2}]", "a=[{b:2}]"}, {"a [1]", "a []", "a=[]"}, {"", "a {b {c 1}}", "a={b:{c:1}}"},
	} {
		l, e := conf.Diff(settings(t, c[0]), settings(t, c[1]))
		if got := showChanges(l); e != api.OK || got != c[2] {
			t.Errorf("Diff of %q and %q: %s, error %d; want %s", c[0], c[1], got, e, c[2])
		}
	}
	for want, c := range map[string][2]api.Value{"": {num(1), num(1)}, "=2": {num(1), num(2)}, "={}": {num(1), table()}, "=nil": {table(), null()}, "=[2]": {list(num(1)), list(num(2))}} {
		l, e := conf.Diff(c[0], c[1])
		if got := showChanges(l); e != api.OK || got != want {
			t.Errorf("Diff: %s, error %d; want %s", got, e, want)
		}
	}
	if l, e := conf.Diff(day(-1), str("\x01")); e != api.ErrRange || len(l) != 0 {
		t.Errorf("%s, error %d", showChanges(l), e)
	}
	if l, e := conf.Diff(num(1), str("\x01")); e != api.ErrByte || len(l) != 0 {
		t.Errorf("%s, error %d", showChanges(l), e)
	}
}

func set(route string, v api.Value) conf.Change { return conf.Change{Route: route, Value: v} }

func gone(route string) conf.Change { return conf.Change{Route: route, Gone: true} }

// P2.9: what Apply makes.
func TestApply(t *testing.T) {
	v := settings(t, "a [1 2]; b {c 1}; n nil")
	full := list(many(conf.MaxValues-2, num(1))...)
	for _, c := range []struct {
		name string
		l    []conf.Change
		want api.Value
	}{
		{"nothing", nil, v},
		{"set", []conf.Change{set("a.0", num(5)), set("b.d.0", num(6))}, settings(t, "a [5 2]; b {c 1; d [6]}; n nil")},
		{"gone", []conf.Change{gone("a.0"), gone("b.c"), gone("n")}, settings(t, "a [2]; b {}")},
		{"one after the other", []conf.Change{gone("a.0"), gone("a.0"), set("a.0", num(3)), set("a.0", num(4)), set("x", num(1)), gone("x"), set("n.0", num(1)), set("n.1", num(2))}, settings(t, "a [4]; b {c 1}; n [1 2]")},
		{"all of it", []conf.Change{set("", num(1))}, num(1)},
		{"all of it, and then more", []conf.Change{set("", null()), set("a", num(1))}, table("a", num(1))},
		{"too large in between", []conf.Change{set("x", full), set("", list(num(1)))}, list(num(1))},
		{"too deep in between", []conf.Change{set("x.x.x.x.x.x.x.x.x.x.x", nested(7, num(1))), gone("x"), set("y", nested(6, num(1)))}, settings(t, "a [1 2]; b {c 1}; n nil; y [[[[[[1]]]]]]")},
	} {
		got, e := conf.Apply(v, c.l)
		expect(t, c.name, got, e, c.want, api.OK)
	}
}

// P2.9: errors of Apply.
func TestApplyErrors(t *testing.T) {
	v := settings(t, "a [1 2]; b {c 1}")
	full := list(many(conf.MaxValues-2, num(1))...)
	bad := set("A", day(-1))
	for _, c := range []struct {
		name string
		l    []conf.Change
		want api.Errno
	}{
		{"gone with a value", []conf.Change{{Route: "a", Gone: true, Value: num(1)}}, api.ErrForm}, {"gone with false", []conf.Change{{Route: "a", Gone: true, Value: truth(false)}}, api.ErrForm}, {"gone with a text", []conf.Change{{Route: "a", Gone: true, Value: api.Value{Text: "a"}}}, api.ErrForm},
		{"gone with keys", []conf.Change{{Route: "a", Gone: true, Value: api.Value{Keys: []string{"a"}}}}, api.ErrForm}, {"gone with items", []conf.Change{{Route: "a", Gone: true, Value: api.Value{Items: many(1, null())}}}, api.ErrForm}, {"gone with a number", []conf.Change{{Route: "a", Gone: true, Value: api.Value{Int: 1}}}, api.ErrForm}, {"gone with a bool", []conf.Change{{Route: "a", Gone: true, Value: api.Value{Bool: true}}}, api.ErrForm},
		{"gone with empty lists", []conf.Change{{Route: "a", Gone: true, Value: api.Value{Items: []api.Value{}, Keys: []string{}}}, set("b", num(1))}, api.OK},
		{"a form before a value", []conf.Change{{Route: "a", Gone: true, Value: day(-1)}}, api.ErrForm}, {"a value before a route", []conf.Change{bad}, api.ErrRange}, {"a route", []conf.Change{set("A", num(1))}, api.ErrPath}, {"a route that is gone", []conf.Change{gone("A")}, api.ErrPath}, {"all of it gone", []conf.Change{gone("")}, api.ErrPath},
		{"a star", []conf.Change{gone("*")}, api.ErrPath}, {"a later change before the making", []conf.Change{gone("x"), bad}, api.ErrRange}, {"one change before another one", []conf.Change{set("A", num(1)), bad}, api.ErrPath}, {"one change before another one's form", []conf.Change{bad, {Gone: true, Value: num(1)}}, api.ErrRange},
		{"none", []conf.Change{gone("x")}, api.ErrNone}, {"none any more", []conf.Change{gone("b.c"), gone("b.c")}, api.ErrNone}, {"a kind", []conf.Change{set("b.0", num(1))}, api.ErrKind}, {"a range", []conf.Change{set("a.3", num(1))}, api.ErrRange}, {"a range any more", []conf.Change{gone("a.0"), set("a.2", num(1))}, api.ErrRange},
		{"in their order", []conf.Change{gone("x"), set("a.3", num(1))}, api.ErrNone}, {"large", []conf.Change{set("x", full)}, api.ErrLarge}, {"deep", []conf.Change{set("x", nested(7, num(1)))}, api.ErrDeep}, {"none before large", []conf.Change{set("x", full), gone("y")}, api.ErrNone}, {"a value that is too large", []conf.Change{set("x", list(full, full)), set("x", num(1))}, api.ErrLarge},
	} {
		got, e := conf.Apply(v, c.l)
		if c.want == api.OK && e == api.OK {
			continue
		}
		expectError(t, c.name, got, e, c.want)
	}
	got, e := conf.Apply(str("\x01"), []conf.Change{bad})
	expectError(t, "the value before the changes", got, e, api.ErrByte)
	got, e = conf.Apply(num(1), []conf.Change{set("a", num(1))})
	expectError(t, "a number", got, e, api.ErrKind)
}

// P2.9: Apply of Diff(a, b) to a is b; P2.7: what Merge returns has what is near.
func TestDiffRandom(t *testing.T) {
	r := rand.New(rand.NewSource(5))
	for range 20_000 {
		a, b := randomValue(r, 5), randomTable(r, 5)
		if r.Intn(3) > 0 {
			a = randomTable(r, 5)
		}
		l, e := conf.Diff(a, b)
		if e != api.OK || (len(l) == 0) != same(a, b) {
			t.Fatalf("Diff(%s, %s): %s, error %d", show(a), show(b), showChanges(l), e)
		}
		for i := range l {
			if i > 0 && l[i].Gone && !l[i-1].Gone {
				t.Fatalf("Diff(%s, %s): %s", show(a), show(b), showChanges(l))
			}
		}
		if got, e := conf.Apply(a, l); e != api.OK || !same(got, b) {
			t.Fatalf("Apply(%s, %s): %s, error %d; want %s", show(a), showChanges(l), show(got), e, show(b))
		}
		m, e := conf.Merge(a, b)
		again, e2 := conf.Merge(m, a)
		if e != api.OK || e2 != api.OK || !same(m, again) {
			t.Fatalf("Merge(%s, %s): %s, errors %d and %d", show(a), show(b), show(m), e, e2)
		}
	}
}
