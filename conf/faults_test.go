package conf_test

import (
	"fmt"
	"math"
	"math/rand"
	"strings"
	"testing"

	"masthead/api"
	"masthead/conf"
)

// showFaults writes faults as one short line.
func showFaults(l []conf.Fault) string {
	names := []string{"none", "missing", "wrong", "low", "high", "other", "unknown"}
	var parts []string
	for _, f := range l {
		parts = append(parts, f.Route+":"+names[f.Kind])
	}
	return strings.Join(parts, " ")
}

type faultCase struct {
	fields []conf.Field
	v      string
	want   string
}

func expectFaults(t *testing.T, strict bool, cases []faultCase) {
	t.Helper()
	for _, c := range cases {
		l, e := conf.Faults(conf.Schema{Fields: c.fields, Strict: strict}, settings(t, c.v))
		if got := showFaults(l); e != api.OK || got != c.want {
			t.Errorf("Faults(%+v, %s): %q, error %d; want %q", c.fields, c.v, got, e, c.want)
		}
	}
}

// one is a schema of one field.
func one(f conf.Field) []conf.Field { return []conf.Field{f} }

// P2.13: what is missing.
func TestMissing(t *testing.T) {
	need := func(route string) []conf.Field {
		return one(conf.Field{Route: route, Kind: conf.Any, Need: true})
	}
	expectFaults(t, false, []faultCase{
		{nil, "a 1", ""}, {need("a"), "a 1", ""}, {need("a"), "a nil", ""}, {need("a"), "b 1", "a:missing"}, {need("a"), "", "a:missing"}, {one(conf.Field{Route: "a", Kind: api.Int}), "b 1", ""},
		{need("a.b.c"), "a {b {c 1}}", ""}, {need("a.b.c"), "a {b {}}", "a.b.c:missing"}, {need("a.b.c"), "a {}", "a.b:missing"}, {need("a.b.c"), "", "a:missing"}, {need("a.b"), "a 1", "a.b:missing"}, {need("a.b"), "a nil", "a.b:missing"}, {need("a.b"), "a [1]", "a.b:missing"}, {need("a.0"), "a {b 1}", "a.0:missing"},
		{need("a.0"), "a [1]", ""}, {need("a.1"), "a [1]", "a.1:missing"}, {need("a.0.b"), "a []", "a.0:missing"}, {need("0"), "a 1", "0:missing"},
		{need("*"), "", ""}, {need("a.*"), "a []", ""}, {need("a.*"), "a {}", ""}, {need("a.*"), "a 1", ""}, {need("a.*"), "a nil", ""}, {need("a.*"), "a \"x\"", ""}, {need("a.*"), "", "a:missing"}, {need("a.*.b"), "a {x 1; y {b 2}; z {}}", "a.x.b:missing a.z.b:missing"},
		{need("a.*.b"), "a [{} {b 1} 1 {}]", "a.0.b:missing a.2.b:missing a.3.b:missing"}, {need("*.*.b"), "x [{} {}]; y {z {}}; w 1", "x.0.b:missing x.1.b:missing y.z.b:missing"}, {need("*.b"), "z {}; y {}; x 1", "x.b:missing y.b:missing z.b:missing"},
	})
}

// P2.13: kinds.
func TestWrong(t *testing.T) {
	words := []string{"nil", "yes", "1", `"a"`, "2000-01-01", "[]", "{}"}
	for kind := conf.Any; kind <= api.Table; kind++ {
		for of, word := range words {
			want := ""
			if kind != conf.Any && kind != of {
				want = "a:wrong"
			}
			expectFaults(t, false, []faultCase{{one(conf.Field{Route: "a", Kind: kind}), "a " + word, want}, {one(conf.Field{Route: "a", Kind: kind, Need: true}), "a " + word, want}})
		}
	}
	expectFaults(t, false, []faultCase{
		{one(conf.Field{Route: "*", Kind: api.Int}), "c yes; b 1; a nil", "a:wrong c:wrong"}, {one(conf.Field{Route: "a.*", Kind: api.Int}), "a [1 yes nil 2]", "a.1:wrong a.2:wrong"}, {one(conf.Field{Route: "a.*.*", Kind: api.Int}), "a [[1 yes] nil {y no; x 1}]", "a.0.1:wrong a.2.y:wrong"},
		{one(conf.Field{Route: "a", Kind: api.Int, Bounded: true, Min: 5, Max: 5}), `a "x"`, "a:wrong"}, {one(conf.Field{Route: "a", Kind: api.String, OneOf: []string{"x"}}), "a 1", "a:wrong"},
	})
}

// P2.13: measures and strings.
func TestBounds(t *testing.T) {
	bounds := func(kind, low, high int) []conf.Field {
		return one(conf.Field{Route: "a", Kind: kind, Bounded: true, Min: low, Max: high})
	}
	for v, measure := range map[string]int{"a 3": 3, "a -3": -3, "a 0": 0, "a 1970-01-04": 3, `a ""`: 0, `a "x\n"`: 2, `a "ä"`: 2, "a []": 0, "a [1 [2 3]]": 2, "a {}": 0, "a {b {c 1; d 2}}": 1} {
		value := settings(t, v).Items[0]
		for _, kind := range []int{conf.Any, value.Kind} {
			expectFaults(t, false, []faultCase{
				{bounds(kind, measure, measure), v, ""}, {bounds(kind, math.MinInt, math.MaxInt), v, ""}, {bounds(kind, measure+1, measure+1), v, "a:low"}, {bounds(kind, math.MaxInt, math.MaxInt), v, "a:low"}, {bounds(kind, measure-1, measure-1), v, "a:high"}, {bounds(kind, math.MinInt, math.MinInt), v, "a:high"},
				{bounds(kind, measure-1, measure+1), v, ""}, {one(conf.Field{Route: "a", Kind: kind}), v, ""},
			})
		}
	}
	expectFaults(t, false, []faultCase{
		{bounds(conf.Any, 5, 6), "a nil", ""}, {bounds(conf.Any, -6, -5), "a yes", ""}, {bounds(api.Bool, 5, 6), "a yes", ""}, {bounds(api.Nil, 5, 6), "a nil", ""}, {bounds(api.Int, math.MaxInt, math.MaxInt), "a -9223372036854775808", "a:low"}, {bounds(api.Int, math.MinInt, math.MinInt), "a 9223372036854775807", "a:high"},
	})
	oneOf := func(l ...string) []conf.Field {
		return one(conf.Field{Route: "a", Kind: api.String, OneOf: l, Bounded: true, Min: 1, Max: 2})
	}
	expectFaults(t, false, []faultCase{
		{oneOf("x", "y"), `a "x"`, ""}, {oneOf("x", "y"), `a "y"`, ""}, {oneOf("x", "y"), `a "z"`, "a:other"}, {oneOf("x", "y"), `a "X"`, "a:other"}, {oneOf("x", ""), `a ""`, "a:low"}, {oneOf("x"), `a ""`, "a:low a:other"}, {oneOf("x"), `a "xxx"`, "a:high a:other"}, {oneOf("xxx"), `a "xxx"`, "a:high"}, {oneOf(), `a "z"`, ""},
	})
}

// P2.13: what no field names.
func TestUnknown(t *testing.T) {
	routes := func(l ...string) []conf.Field {
		var fields []conf.Field
		for _, route := range l {
			fields = append(fields, conf.Field{Route: route, Kind: conf.Any})
		}
		return fields
	}
	expectFaults(t, true, []faultCase{
		{nil, "", ":unknown"}, {routes("a"), "", ":unknown"}, {routes("*"), "", ":unknown"}, {nil, "b 1; a {d nil; c [2 {}]}", "a.c.0:unknown a.c.1:unknown a.d:unknown b:unknown"},
		{routes("a"), "a 1", ""}, {routes("a"), "a {b 1; c [1]}", ""}, {routes("a"), "aa 1; a-b 2", "a-b:unknown aa:unknown"}, {routes("a.b"), "a {b [1 2]; bb 3; c 4}", "a.bb:unknown a.c:unknown"}, {routes("a.b"), "a {}", "a:unknown"}, {routes("a.b"), "a 1", "a:unknown"}, {routes("a.*"), "a []", "a:unknown"},
		{routes("*"), "a 1; b {c 1}; d []", ""}, {routes("a.*"), "a [1 [2]]; b 1", "b:unknown"}, {routes("a.*.b"), "a [{b 1; c 2} {b [3]} 4]", "a.0.c:unknown a.2:unknown"}, {routes("*.0"), "a [1 2]; b [[3]]", "a.1:unknown"}, {routes("a", "b"), "a 1; b 2; c 3", "c:unknown"}, {routes("a.1"), "a [1 2 3 4 5 6 7 8 9 0 1]", "a.0:unknown a.2:unknown a.3:unknown a.4:unknown a.5:unknown a.6:unknown a.7:unknown a.8:unknown a.9:unknown a.10:unknown"},
	})
	for _, v := range []api.Value{null(), num(1), list(), str("a")} {
		l, e := conf.Faults(conf.Schema{Fields: routes("a", "*"), Strict: true}, v)
		if e != api.OK || showFaults(l) != ":unknown" {
			t.Errorf("Faults of %s: %s, error %d", show(v), showFaults(l), e)
		}
		if l, e := conf.Faults(conf.Schema{Fields: routes("a", "*")}, v); e != api.OK || len(l) != 0 {
			t.Errorf("Faults of %s: %s, error %d", show(v), showFaults(l), e)
		}
	}
}

// P2.13: field after field, and then what is unknown.
func TestFaultsOrder(t *testing.T) {
	fields := []conf.Field{
		{Route: "z", Kind: api.Int, Need: true}, {Route: "l.*.n", Kind: api.Int, Bounded: true, Min: 1, Max: 2}, {Route: "k", Kind: api.String, OneOf: []string{"a"}}, {Route: "a", Kind: api.Bool}, {Route: "*", Kind: conf.Any, Bounded: true, Min: 1, Max: 9}, {Route: "l.0.n", Kind: api.Day},
	}
	v := `l [{n 0} {n "x"} {n 3; m 1}]; k ""; a 10`
	expectFaults(t, false, []faultCase{{fields, v, "z:missing l.0.n:low l.1.n:wrong l.2.n:high k:other a:wrong a:high k:low l.0.n:wrong"}})
	expectFaults(t, true, []faultCase{{append(fields[:4:4], fields[5]), v, "z:missing l.0.n:low l.1.n:wrong l.2.n:high k:other a:wrong l.0.n:wrong l.2.m:unknown"}})
	if l, e := conf.Faults(conf.Schema{Strict: true}, list(num(1), day(-1))); e != api.ErrRange || len(l) != 0 {
		t.Errorf("Faults of no value of settings: %v, error %d", l, e)
	}
}

// P2.14: Fill.
func TestFill(t *testing.T) {
	field := func(route string, v api.Value) conf.Field {
		return conf.Field{Route: route, Kind: conf.Any, Default: v}
	}
	for _, c := range []struct {
		fields  []conf.Field
		v, want string
	}{
		{nil, "a 1", "a 1"}, {one(field("a", num(5))), "", "a 5"}, {one(field("a", num(5))), "a 1", "a 1"}, {one(field("a", num(5))), "a nil", "a nil"}, {one(field("a", null())), "", ""}, {one(conf.Field{Route: "a", Kind: api.Int, Need: true}), "", ""}, {one(conf.Field{Route: "*.b", Kind: api.Int}), "a {}", "a {}"},
		{one(field("a.b.0", num(5))), "", "a {b [5]}"}, {one(field("a.b", num(5))), "a {c 1}", "a {b 5; c 1}"}, {one(field("a.b", num(5))), "a nil", "a {b 5}"}, {one(field("a.0", num(5))), "a nil", "a [5]"}, {one(field("a.1", num(5))), "a [1]", "a [1 5]"}, {one(field("a.0", num(5))), "a [1]", "a [1]"},
		{[]conf.Field{field("b", num(5)), field("a", list(num(6)))}, "c 1", "a [6]; b 5; c 1"}, {[]conf.Field{field("a", table("b", num(5))), field("a.b", num(6)), field("a.c", num(7))}, "", "a {b 5; c 7}"}, {[]conf.Field{field("a.b", num(6)), field("a", table("b", num(5)))}, "", "a {b 6}"}, {[]conf.Field{field("a.0", num(6)), field("a.1", num(7))}, "", "a [6 7]"},
		{[]conf.Field{{Route: "a", Kind: api.Int, Bounded: true, Min: 1, Max: 2, Default: num(9)}}, "", "a 9"},
	} {
		got, e := conf.Fill(schema(c.fields...), settings(t, c.v))
		expect(t, fmt.Sprintf("Fill of %q with %+v", c.v, c.fields), got, e, settings(t, c.want), api.OK)
	}
	got, e := conf.Fill(schema(field("0", num(5))), null())
	expect(t, "Fill of nil", got, e, list(num(5)), api.OK)
	full := "a [" + strings.Repeat("1 ", conf.MaxValues-2) + "]"
	for name, c := range map[string]struct {
		v      string
		fields []conf.Field
		want   api.Errno
	}{
		"a kind": {"a 1", one(field("a.b", num(5))), api.ErrKind}, "a number in a table": {"", one(field("0", num(5))), api.ErrKind}, "a range": {"a [1]", one(field("a.2", num(5))), api.ErrRange}, "a range in nothing": {"", one(field("a.1", num(5))), api.ErrRange}, "deep": {"", one(field("a", nested(7, num(1)))), api.ErrDeep}, "large": {full, one(field("b", num(1))), api.ErrLarge},
		"in their order": {"a 1; b [1]", []conf.Field{field("b.2", num(5)), field("a.b", num(5))}, api.ErrRange}, "large before a later field": {full, []conf.Field{field("b", num(1)), field("a.b", num(5))}, api.ErrLarge}, "nothing that is needed": {full, one(field("a.0", num(1))), api.OK},
	} {
		got, e := conf.Fill(schema(c.fields...), settings(t, c.v))
		if c.want == api.OK && e == api.OK {
			continue
		}
		expectError(t, name, got, e, c.want)
	}
	got, e = conf.Fill(schema(field("a", num(1))), str("\x01"))
	expectError(t, "no value of settings", got, e, api.ErrByte)
}

// P2.13 and P2.14: with one another.
func TestFaultsRandom(t *testing.T) {
	r := rand.New(rand.NewSource(7))
	filled := 0
	for range 20_000 {
		s, v := randomSchema(r), randomTable(r, 4)
		l, e := conf.Faults(s, v)
		if e != api.OK {
			t.Fatalf("Faults(%+v, %s): error %d", s, show(v), e)
		}
		for _, f := range l {
			x, e := conf.Get(v, f.Route)
			if (f.Kind == conf.Missing) != (e == api.ErrNone) || f.Kind == conf.Other && x.Kind != api.String || f.Kind == conf.Unknown && (!s.Strict || len(x.Items) > 0) {
				t.Fatalf("Faults(%+v, %s): %s", s, show(v), showFaults(l))
			}
		}
		x, e := conf.Fill(s, v)
		if e == api.ErrKind || e == api.ErrRange {
			continue
		}
		filled++
		again, e2 := conf.Fill(s, x)
		if e != api.OK || e2 != api.OK || !same(x, again) {
			t.Fatalf("Fill(%+v, %s): %s, errors %d and %d", s, show(v), show(x), e, e2)
		}
		for _, f := range s.Fields {
			if _, e := conf.Get(x, f.Route); f.Default.Kind != api.Nil && e != api.OK {
				t.Fatalf("Fill(%+v, %s): %s has nothing at %s", s, show(v), show(x), f.Route)
			}
		}
	}
	if filled < 5000 {
		t.Errorf("only %d values were filled", filled)
	}
}
