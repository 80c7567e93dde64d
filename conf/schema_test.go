package conf_test

import (
	"fmt"
	"math"
	"math/rand"
	"slices"
	"strings"
	"testing"

	"masthead/api"
	"masthead/conf"
)

func schema(l ...conf.Field) conf.Schema { return conf.Schema{Fields: l} }

// sameSchema says whether two schemas are equal; empty and nil lists are the same.
func sameSchema(a, b conf.Schema) bool {
	return a.Strict == b.Strict && slices.EqualFunc(a.Fields, b.Fields, func(f, g conf.Field) bool {
		return f.Route == g.Route && f.Kind == g.Kind && f.Need == g.Need && f.Bounded == g.Bounded && f.Min == g.Min && f.Max == g.Max && slices.Equal(f.OneOf, g.OneOf) && same(f.Default, g.Default)
	})
}

// fields are n fields with different Routes.
func fields(n int) []conf.Field {
	var l []conf.Field
	for i := range n {
		l = append(l, conf.Field{Route: fmt.Sprint("a.", i), Kind: api.Int})
	}
	return l
}

// P2.11: schemas that are ones.
func TestCheckSchema(t *testing.T) {
	for name, s := range map[string]conf.Schema{
		"empty": {}, "strict": {Strict: true}, "as many fields as can be": schema(fields(conf.MaxFields)...),
		"routes":                   schema(conf.Field{Route: "a"}, conf.Field{Route: "0"}, conf.Field{Route: "*"}, conf.Field{Route: "a.*"}, conf.Field{Route: "*.a"}, conf.Field{Route: "*.*.9999.b-c"}, conf.Field{Route: "a.0"}),
		"a long route":             schema(conf.Field{Route: strings.Repeat("*.", conf.MaxRoute/2-1) + "aa"}),
		"bounds":                   schema(conf.Field{Route: "a", Bounded: true}, conf.Field{Route: "b", Kind: api.Bool, Bounded: true, Min: math.MinInt, Max: math.MaxInt}, conf.Field{Route: "c", Kind: conf.Any, Bounded: true, Min: 5, Max: 5}),
		"strings":                  schema(conf.Field{Route: "a", Kind: api.String, OneOf: []string{"", "a\n\t\xff", strings.Repeat("x", conf.MaxString), "", ""}}),
		"no strings":               schema(conf.Field{Route: "a", Kind: api.Int, OneOf: []string{}}),
		"defaults":                 schema(conf.Field{Route: "a", Kind: api.Bool, Default: truth(false)}, conf.Field{Route: "b", Kind: api.List, Default: nested(7, num(1))}, conf.Field{Route: "c", Kind: conf.Any, Default: num(1)}, conf.Field{Route: "d", Kind: conf.Any}, conf.Field{Route: "e.*", Kind: api.Int}),
		"defaults that are faulty": schema(conf.Field{Route: "a", Kind: api.String, OneOf: []string{"a"}, Bounded: true, Min: 9, Max: 9, Default: str("b")}),
	} {
		if e := conf.CheckSchema(s); e != api.OK {
			t.Errorf("%s: error %d", name, e)
		}
	}
	for kind := -4; kind <= 10; kind++ {
		want := api.ErrKind
		if kind == conf.Any || kind >= api.Nil && kind <= api.Table {
			want = api.OK
		}
		if e := conf.CheckSchema(schema(conf.Field{Route: "a", Kind: kind})); e != want {
			t.Errorf("kind %d: error %d, want %d", kind, e, want)
		}
		for v := api.Bool; v <= api.Table; v++ {
			f, want := conf.Field{Route: "a", Kind: kind, Default: other(v)}, want
			if want == api.OK && kind != conf.Any && kind != v {
				want = api.ErrKind
			}
			if e := conf.CheckSchema(schema(f)); e != want {
				t.Errorf("kind %d with a default of kind %d: error %d, want %d", kind, v, e, want)
			}
		}
		if e := conf.CheckSchema(schema(conf.Field{Route: "a", Kind: kind, OneOf: []string{"a"}})); e == api.OK && kind != api.String || e != api.OK && kind == api.String {
			t.Errorf("kind %d with strings: error %d", kind, e)
		}
	}
}

type schemaError struct {
	name string
	s    conf.Schema
	want api.Errno
}

// schemaErrors are schemas with errors, some of them with more than one.
func schemaErrors() []schemaError {
	long := strings.Repeat("x", conf.MaxString+1)
	twice := conf.Field{Route: "a", Kind: 99}
	l := []schemaError{
		{"many fields", schema(fields(conf.MaxFields + 1)...), api.ErrLarge}, {"many fields before their errors", schema(make([]conf.Field, conf.MaxFields+1)...), api.ErrLarge},
		{"twice", schema(conf.Field{Route: "a"}, conf.Field{Route: "b"}, conf.Field{Route: "a"}), api.ErrTwice}, {"a star twice", schema(conf.Field{Route: "*"}, conf.Field{Route: "*"}), api.ErrTwice}, {"twice before a kind", schema(conf.Field{Route: "a"}, twice), api.ErrTwice}, {"a kind before twice", schema(twice, twice), api.ErrKind},
		{"a route before a kind", schema(conf.Field{Route: "A", Kind: 99}), api.ErrPath}, {"a kind before bounds", schema(conf.Field{Route: "a", Kind: 99, Min: 1}), api.ErrKind},
		{"Min without bounds", schema(conf.Field{Route: "a", Min: -1}), api.ErrForm}, {"Max without bounds", schema(conf.Field{Route: "a", Max: 1}), api.ErrForm}, {"not in order without bounds", schema(conf.Field{Route: "a", Min: 1}), api.ErrForm},
		{"not in order", schema(conf.Field{Route: "a", Bounded: true, Min: 1}), api.ErrOrder}, {"the greatest not in order", schema(conf.Field{Route: "a", Bounded: true, Min: math.MaxInt, Max: math.MinInt}), api.ErrOrder}, {"an order before a form", schema(conf.Field{Route: "a", Bounded: true, Min: 1, OneOf: []string{"a"}}), api.ErrOrder},
		{"strings", schema(conf.Field{Route: "a", Kind: api.Int, OneOf: []string{"a"}}), api.ErrForm}, {"strings for any", schema(conf.Field{Route: "a", Kind: conf.Any, OneOf: []string{"a"}}), api.ErrForm}, {"strings before their errors", schema(conf.Field{Route: "a", Kind: api.Int, OneOf: []string{"\x01"}}), api.ErrForm},
		{"a long string", schema(conf.Field{Route: "a", Kind: api.String, OneOf: []string{"a", long}}), api.ErrLarge}, {"a byte", schema(conf.Field{Route: "a", Kind: api.String, OneOf: []string{"a", "a\x1f"}}), api.ErrByte}, {"one string before another one", schema(conf.Field{Route: "a", Kind: api.String, OneOf: []string{"\x01", long}}), api.ErrByte}, {"long before a byte", schema(conf.Field{Route: "a", Kind: api.String, OneOf: []string{"\x01" + long}}), api.ErrLarge},
		{"a string before the default", schema(conf.Field{Route: "a", Kind: api.String, OneOf: []string{"\x01"}, Default: day(-1)}), api.ErrByte}, {"a default", schema(conf.Field{Route: "a", Kind: api.Day, Default: day(-1)}), api.ErrRange}, {"a default that is too deep", schema(conf.Field{Route: "a", Kind: api.List, Default: nested(8, num(1))}), api.ErrDeep}, {"a default before its kind", schema(conf.Field{Route: "a", Kind: api.Int, Default: day(-1)}), api.ErrRange},
		{"a nil that is none", schema(conf.Field{Route: "a", Default: api.Value{Text: "a"}}), api.ErrForm}, {"a kind before a star", schema(conf.Field{Route: "*", Kind: api.Int, Default: str("a")}), api.ErrKind}, {"a star", schema(conf.Field{Route: "*", Kind: api.Int, Default: num(1)}), api.ErrForm}, {"a star for any", schema(conf.Field{Route: "a.*.b", Kind: conf.Any, Default: num(1)}), api.ErrForm},
		{"one field before another one", schema(conf.Field{Route: "a", Default: day(-1)}, conf.Field{Route: "A"}), api.ErrRange}, {"a later field", schema(append(fields(50), conf.Field{Route: "b", Kind: -2})...), api.ErrKind},
	}
	for _, route := range append(wrongRoutes(), "", "**", "a*", "*a", "a.**", "*.", ".*", strings.Repeat("*.", conf.MaxRoute/2)+"*") {
		if !slices.Contains([]string{"*", "a.*"}, route) {
			l = append(l, schemaError{"the route " + short(route), schema(conf.Field{Route: route, Kind: api.Int}), api.ErrPath})
		}
	}
	return l
}

// P2.11: errors, of all functions with a schema.
func TestSchemaErrors(t *testing.T) {
	for _, c := range schemaErrors() {
		if e := conf.CheckSchema(c.s); e != c.want {
			t.Errorf("%s: CheckSchema is %d, want %d", c.name, e, c.want)
		}
		v, e := conf.SchemaValue(c.s)
		expectError(t, "SchemaValue with "+c.name, v, e, c.want)
		if l, e := conf.Faults(c.s, num(1)); e != c.want || len(l) > 0 {
			t.Errorf("%s: Faults has %v, error %d, want %d", c.name, l, e, c.want)
		}
		v, e = conf.Fill(c.s, num(1))
		expectError(t, "Fill with "+c.name, v, e, c.want)
	}
}

// everySchema is a schema with all that one can have.
func everySchema() conf.Schema {
	return conf.Schema{Strict: true, Fields: []conf.Field{
		{Route: "n", Kind: api.Nil}, {Route: "b", Kind: api.Bool, Need: true, Default: truth(false)}, {Route: "i", Kind: api.Int, Bounded: true, Min: -5, Max: math.MaxInt, Default: num(-7)}, {Route: "s.*", Kind: api.String, OneOf: []string{"b", "a", "b"}},
		{Route: "d", Kind: api.Day, Bounded: true, Default: day(0)}, {Route: "l.0", Kind: api.List, Default: list(num(1), table("a", null()))}, {Route: "t", Kind: api.Table, Need: true, Default: table("x", str(""))}, {Route: "*", Kind: conf.Any},
	}}
}

const everySettings = `fields [
{kind "nil"; need no; route "n"}
{default no; kind "bool"; need yes; route "b"}
{default -7; kind "int"; max 9223372036854775807; min -5; need no; route "i"}
{kind "string"; need no; oneof ["b" "a" "b"]; route "s.*"}
{default 1970-01-01; kind "day"; max 0; min 0; need no; route "d"}
{default [1 {a nil}]; kind "list"; need no; route "l.0"}
{default {x ""}; kind "table"; need yes; route "t"}
{kind "any"; need no; route "*"}
]
strict yes`

// P2.12: schemas as values.
func TestSchemaValue(t *testing.T) {
	v, e := conf.SchemaValue(everySchema())
	expect(t, "SchemaValue", v, e, settings(t, everySettings), api.OK)
	v, e = conf.SchemaValue(conf.Schema{})
	expect(t, "SchemaValue of the empty one", v, e, settings(t, "fields []; strict no"), api.OK)
	v, e = conf.SchemaValue(schema(conf.Field{Route: "a", Kind: api.List, Default: nested(4, num(1))}))
	expect(t, "SchemaValue as deep as can be", v, e, settings(t, `fields [{default [[[[1]]]]; kind "list"; need no; route "a"}]; strict no`), api.OK)
	v, e = conf.SchemaValue(schema(conf.Field{Route: "a", Kind: api.String, OneOf: []string{"b"}}))
	expect(t, "SchemaValue with one string", v, e, settings(t, `fields [{kind "string"; need no; oneof ["b"]; route "a"}]; strict no`), api.OK)
	for name, c := range map[string]struct {
		s    conf.Schema
		want api.Errno
	}{
		"deep": {schema(conf.Field{Route: "a", Kind: api.List, Default: nested(5, num(1))}), api.ErrDeep}, "large": {schema(conf.Field{Route: "a", Kind: api.List, Default: list(many(conf.MaxValues-1, num(1))...)}), api.ErrLarge},
		"strings": {schema(conf.Field{Route: "a", Kind: api.String, OneOf: make([]string, conf.MaxValues)}), api.ErrLarge}, "large before deep": {schema(conf.Field{Route: "a", Kind: api.String, OneOf: make([]string, conf.MaxValues)}, conf.Field{Route: "b", Kind: api.List, Default: nested(7, num(1))}), api.ErrLarge},
	} {
		v, e := conf.SchemaValue(c.s)
		expectError(t, name, v, e, c.want)
	}
	s := schema(conf.Field{Route: "a", Kind: api.String, OneOf: make([]string, conf.MaxValues-8)})
	if v, e := conf.SchemaValue(s); e != api.OK || len(v.Items[0].Items[0].Items[2].Items) != conf.MaxValues-8 {
		t.Errorf("as many strings as can be: error %d", e)
	}
	s.Fields[0].OneOf = append(s.Fields[0].OneOf, "")
	v, e = conf.SchemaValue(s)
	expectError(t, "one more string", v, e, api.ErrLarge)
}

// P2.12: what ReadSchema reads.
func TestReadSchema(t *testing.T) {
	for text, want := range map[string]conf.Schema{
		everySettings: everySchema(), "": {}, "fields []": {}, "strict no": {}, "strict yes": {Strict: true}, `fields [{kind "int"; route "a"}]`: schema(conf.Field{Route: "a", Kind: api.Int}),
		`fields [{kind "any"; max 2; min 1; need yes; route "a.*"} {kind "string"; oneof []; route "b"}]`: schema(conf.Field{Route: "a.*", Kind: conf.Any, Need: true, Bounded: true, Min: 1, Max: 2}, conf.Field{Route: "b", Kind: api.String}),
		`fields [{default {need 1; other 2}; kind "table"; route "a"}]`:                                   schema(conf.Field{Route: "a", Kind: api.Table, Default: table("need", num(1), "other", num(2))}),
	} {
		if s, e := conf.ReadSchema(settings(t, text)); e != api.OK || !sameSchema(s, want) {
			t.Errorf("ReadSchema(%q): %+v, error %d; want %+v", text, s, e, want)
		}
	}
}

// P2.12: errors of ReadSchema.
func TestReadSchemaErrors(t *testing.T) {
	good := `kind "int"; route "a"`
	for text, want := range map[string]api.Errno{
		"strict 1": api.ErrKind, "strict nil": api.ErrKind, "fields {}": api.ErrKind, "fields nil": api.ErrKind, "fields [1]": api.ErrKind, "fields [[]]": api.ErrKind, "fields [{" + good + "} nil]": api.ErrKind,
		`fields [{kind 1; route "a"}]`: api.ErrKind, `fields [{kind "int"; route nil}]`: api.ErrKind, "fields [{" + good + "; need 1}]": api.ErrKind, "fields [{" + good + `; min "1"; max 2}]`: api.ErrKind, "fields [{" + good + "; min 1; max 2000-01-01}]": api.ErrKind, "fields [{" + good + `; oneof "a"}]`: api.ErrKind, "fields [{" + good + "; oneof {}}]": api.ErrKind, "fields [{" + good + `; oneof ["a" 1]}]`: api.ErrKind,
		"other 1": api.ErrName, "fields []; name nil": api.ErrName, "route \"a\"": api.ErrName, "fields [{" + good + "; strict no}]": api.ErrName, "fields [{" + good + "; x 1}]": api.ErrName,
		`fields [{kind "Int"; route "a"}]`: api.ErrName, `fields [{kind ""; route "a"}]`: api.ErrName, `fields [{kind "safe"; route "a"}]`: api.ErrName, `fields [{kind "-1"; route "a"}]`: api.ErrName,
		"fields [{}]": api.ErrNone, `fields [{kind "int"}]`: api.ErrNone, `fields [{route "a"}]`: api.ErrNone, "fields [{" + good + "; min 1}]": api.ErrNone, "fields [{" + good + "; max 1}]": api.ErrNone,
		// Each one of these is looked for in the whole value.
		"other 1; fields [{} 1]": api.ErrKind, `fields [{} {kind "odd"} {need 1}]`: api.ErrKind, `fields [{} {kind "odd"}]`: api.ErrName, `fields [{} {x 1}]`: api.ErrName, "fields [{}]; x 1": api.ErrName, `fields [{kind "odd"}]; strict 1`: api.ErrKind, "a 1; strict 1": api.ErrKind,
		`fields [{kind "int"; route "A"} {kind "int"}]`: api.ErrNone,
		// And then what CheckSchema looks for.
		`fields [{kind "int"; route ""}]`: api.ErrPath, "fields [{" + good + "}{" + good + "}]": api.ErrTwice, "fields [{" + good + "; min 2; max 1}]": api.ErrOrder, "fields [{" + good + `; oneof ["a"]}]`: api.ErrForm, "fields [{" + good + `; default "a"}]`: api.ErrKind, `fields [{kind "any"; route "*"; default 1}]`: api.ErrForm,
		"fields [" + strings.Repeat("{"+good+"}", conf.MaxFields+1) + "]": api.ErrLarge,
	} {
		if s, e := conf.ReadSchema(settings(t, text)); e != want || !sameSchema(s, conf.Schema{}) {
			t.Errorf("ReadSchema(%s): %+v, error %d; want %d", short(text), s, e, want)
		}
	}
	for _, v := range []api.Value{null(), num(1), list(), str("strict")} {
		if s, e := conf.ReadSchema(v); e != api.ErrKind || !sameSchema(s, conf.Schema{}) {
			t.Errorf("ReadSchema(%s): %+v, error %d", show(v), s, e)
		}
	}
	if s, e := conf.ReadSchema(list(day(-1))); e != api.ErrRange || !sameSchema(s, conf.Schema{}) {
		t.Errorf("ReadSchema of no value of settings: %+v, error %d", s, e)
	}
}

// randomField is a field that is one, with a Route of its own.
func randomField(r *rand.Rand, route string) conf.Field {
	f := conf.Field{Route: route, Kind: r.Intn(8) - 1, Need: r.Intn(2) == 0, Bounded: r.Intn(2) == 0}
	if f.Bounded {
		f.Min = r.Intn(5) - 2
		f.Max = f.Min + r.Intn(4)
	}
	if f.Kind == api.String && r.Intn(2) == 0 {
		f.OneOf = []string{randomText(r), randomText(r)}
	}
	if v := randomValue(r, 3); !strings.Contains(route, "*") && (f.Kind == conf.Any || f.Kind == v.Kind) {
		f.Default = v
	}
	return f
}

func randomSchema(r *rand.Rand) conf.Schema {
	s := conf.Schema{Strict: r.Intn(2) == 0}
	for _, route := range []string{"a", "b.*", "c.0", "c.*.a", "*", "zz.a.b", "a-b"} {
		if r.Intn(2) == 0 {
			s.Fields = append(s.Fields, randomField(r, route))
		}
	}
	return s
}

// P2.12: ReadSchema reads what SchemaValue writes.
func TestSchemaRandom(t *testing.T) {
	r := rand.New(rand.NewSource(6))
	for range 5000 {
		s := randomSchema(r)
		v, e := conf.SchemaValue(s)
		if e != api.OK || conf.Check(v) != api.OK {
			t.Fatalf("SchemaValue(%+v): %s, error %d", s, show(v), e)
		}
		if back, e := conf.ReadSchema(v); e != api.OK || !sameSchema(back, s) {
			t.Fatalf("ReadSchema(%s): %+v, error %d; want %+v", show(v), back, e, s)
		}
	}
}
