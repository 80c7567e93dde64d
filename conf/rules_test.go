package conf_test

import (
	"fmt"
	"math"
	"math/rand"
	"slices"
	"strings"
	"sync"
	"testing"

	"masthead/api"
	"masthead/conf"
)

// arguments are those of all calls of callAll.
type arguments struct {
	v, x    api.Value
	route   string
	changes []conf.Change
	schema  conf.Schema
	text    string
}

// callAll calls each function with values or strings; the results as one string.
func callAll(a arguments) string {
	var b strings.Builder
	add := func(e api.Errno, parts ...any) {
		fmt.Fprintln(&b, append(parts, int(e))...)
	}
	add(conf.Check(a.v), conf.Compare(a.v, a.x), conf.Compare(a.x, a.v), conf.CheckSchema(a.schema))
	for _, v := range values(a) {
		b.WriteString(show(v) + "\n")
	}
	s, e := conf.Print(a.v)
	add(e, s)
	l, e := conf.Routes(a.v)
	add(e, l)
	changes, e := conf.Diff(a.v, a.x)
	add(e, showChanges(changes))
	r, e := conf.ReadSchema(a.v)
	add(e, r.Strict, len(r.Fields))
	faults, e := conf.Faults(a.schema, a.v)
	add(e, faults)
	s, e = conf.Join(a.v, a.text)
	add(e, s)
	v, pos, e := conf.Parse(a.text)
	add(e, show(v), pos)
	v, s, pos, e = conf.Front(a.text)
	add(e, show(v), s, pos)
	n, e := conf.ReadDay(a.text)
	add(e, n)
	return b.String()
}

// values are all values that functions make of others.
func values(a arguments) []api.Value {
	get, _ := conf.Get(a.v, a.route)
	set, _ := conf.Set(a.v, a.route, a.x)
	removed, _ := conf.Remove(a.v, a.route)
	merged, _ := conf.Merge(a.v, a.x)
	merged2, _ := conf.Merge(a.x, a.v)
	applied, _ := conf.Apply(a.v, a.changes)
	expanded, _ := conf.Expand(a.v)
	written, _ := conf.SchemaValue(a.schema)
	filled, _ := conf.Fill(a.schema, a.v)
	l := []api.Value{get, set, removed, merged, merged2, applied, expanded, written, filled}
	changes, _ := conf.Diff(a.v, a.x)
	for _, c := range changes {
		l = append(l, c.Value)
	}
	read, _ := conf.ReadSchema(written)
	for _, f := range read.Fields {
		l = append(l, f.Default)
	}
	return l
}

// anyValue is a value with fields that fit or do not.
func anyValue(r *rand.Rand, depth int) api.Value {
	if r.Intn(3) == 0 {
		return randomValue(r, depth)
	}
	texts := []string{"", "", "a", "\x01", "${a}", "$", "\n"}
	numbers := []int{0, 0, 0, 1, -1, math.MinInt, math.MaxInt, api.MaxDay + 1}
	v := api.Value{Kind: r.Intn(10) - 1, Bool: r.Intn(5) == 0, Int: numbers[r.Intn(len(numbers))], Text: texts[r.Intn(len(texts))]}
	for range r.Intn(3) {
		if depth > 0 {
			v.Items = append(v.Items, anyValue(r, depth-1))
		}
	}
	for range r.Intn(3) {
		v.Keys = append(v.Keys, []string{"a", "b", "A", "", randomKey(r)}[r.Intn(5)])
	}
	return v
}

func anyRoute(r *rand.Rand) string {
	routes := []string{"", "a", "b", "a.0", "a.a", "0", "0.0", "c.1", "b.1.a", "*", "A", "a..b", "\x00", "9999", "10000", "nil.no"}
	return routes[r.Intn(len(routes))]
}

// anyArguments are arguments that are right or not.
func anyArguments(r *rand.Rand) arguments {
	a := arguments{v: anyValue(r, 3), x: anyValue(r, 3), route: anyRoute(r), schema: randomSchema(r), text: randomSettings(r)}
	for range r.Intn(4) {
		a.changes = append(a.changes, conf.Change{Route: anyRoute(r), Value: anyValue(r, 2), Gone: r.Intn(3) == 0})
	}
	for i := range a.schema.Fields {
		if r.Intn(5) == 0 {
			a.schema.Fields[i] = conf.Field{Route: anyRoute(r), Kind: r.Intn(12) - 3, Bounded: r.Intn(2) == 0, Min: r.Intn(3), Max: r.Intn(3), OneOf: []string{"a", "\x01"}[:r.Intn(3)], Default: anyValue(r, 2)}
		}
	}
	if r.Intn(2) == 0 {
		a.text = "%%%\n" + a.text + "\n%%%\nrest"
	}
	return a
}

// Z1: no call panics, whatever it is given.
func TestNothingPanics(t *testing.T) {
	r := rand.New(rand.NewSource(9))
	for range 20_000 {
		callAll(anyArguments(r))
	}
	const bytes = " \n\"\\#;[]{}a1-$%.\x00\xff"
	for range 50_000 {
		b := make([]byte, r.Intn(12))
		for i := range b {
			b[i] = bytes[r.Intn(len(bytes))]
		}
		s := string(b)
		conf.Parse(s)
		conf.Front("%%%\n" + s + "\n%%%")
		conf.ReadDay(s)
		conf.Get(null(), s)
		conf.Expand(str(s))
	}
	deep := nested(100_000, num(1))
	wide := list(many(100_000, num(1))...)
	long := strings.Repeat("a.", 1_000_000)
	for _, v := range []api.Value{deep, wide, str(long)} {
		callAll(arguments{v: v, x: v, route: long, changes: []conf.Change{set(long, v)}, schema: schema(conf.Field{Route: long, Kind: api.String, OneOf: []string{long}, Default: v}), text: long})
	}
}

// full are arguments with which each function returns something.
func full(t *testing.T) arguments {
	t.Helper()
	return arguments{
		v: settings(t, `a [1 {b "x${c}"; d [2 {}]} [3]]; c 1; t {u {v [1]}; w [2]}`), x: settings(t, `c [{d 1; e [2]}]; t {u {x [3]}; w [{y 4}]}; z [5 [6]]`), route: "a.1",
		changes: []conf.Change{set("a.0", list(num(1), table("b", list(num(2))))), set("t.u", table("q", list(num(3)))), gone("a.2")}, text: "%%%\nb [1 {c 2}]\n%%%\nrest",
		schema: conf.Schema{Strict: true, Fields: []conf.Field{
			{Route: "new", Kind: api.List, Default: list(num(1), table("b", list(num(2))))}, {Route: "t.new", Kind: api.Table, Default: table("a", list(num(3)))}, {Route: "s", Kind: api.String, OneOf: []string{"a", "b"}},
		}},
	}
}

// withRoom is a value with room behind its lists, and something there.
func withRoom(v api.Value) api.Value {
	v.Items = append(slices.Clone(v.Items), num(77), num(77))[:len(v.Items)]
	v.Keys = append(slices.Clone(v.Keys), "behind", "behind")[:len(v.Keys)]
	for i, item := range v.Items {
		v.Items[i] = withRoom(item)
	}
	return v
}

// behindIsSame says whether what is behind the lists is as withRoom has made it.
func behindIsSame(v api.Value) bool {
	for _, x := range v.Items[len(v.Items) : len(v.Items)+2] {
		if !same(x, num(77)) {
			return false
		}
	}
	for _, key := range v.Keys[len(v.Keys) : len(v.Keys)+2] {
		if key != "behind" {
			return false
		}
	}
	return !slices.ContainsFunc(v.Items, func(x api.Value) bool { return !behindIsSame(x) })
}

// spoil changes all that a value has, and what is behind its lists.
func spoil(v api.Value) {
	for _, item := range v.Items {
		spoil(item)
	}
	for i := range v.Items[:cap(v.Items)] {
		v.Items[:cap(v.Items)][i] = str("spoilt")
	}
	for i := range v.Keys[:cap(v.Keys)] {
		v.Keys[:cap(v.Keys)][i] = "spoilt"
	}
}

// roomy are the arguments of full, with room behind the lists.
func roomy(t *testing.T) (a arguments, all []api.Value) {
	a = full(t)
	a.v, a.x = withRoom(a.v), withRoom(a.x)
	all = append(all, a.v, a.x)
	for i := range a.changes {
		a.changes[i].Value = withRoom(a.changes[i].Value)
		all = append(all, a.changes[i].Value)
	}
	for i := range a.schema.Fields {
		a.schema.Fields[i].Default = withRoom(a.schema.Fields[i].Default)
		all = append(all, a.schema.Fields[i].Default)
	}
	return a, all
}

// Z2: arguments stay as they are, and results are in memory of their own.
func TestArgumentsAndResults(t *testing.T) {
	a, all := roomy(t)
	before := callAll(full(t))
	got := values(a)
	var shown []string
	for i, v := range got {
		if i < 9 && same(v, null()) {
			t.Fatalf("result %d is nothing", i)
		}
		shown = append(shown, show(v))
		spoil(v)
		if callAll(a) != before {
			t.Fatalf("result %d shares memory with the arguments, or the call has changed them", i)
		}
	}
	for _, v := range all {
		if !behindIsSame(v) {
			t.Error("what is behind a list has changed")
		}
	}
	got = values(a)
	for _, v := range all {
		spoil(v)
	}
	for i, v := range got {
		if show(v) != shown[i] {
			t.Errorf("result %d has changed with the arguments, or with another result:\n%s\n%s", i, shown[i], show(v))
		}
		spoil(v)
	}
}

// Z2: what is returned as it was is in memory of its own, too.
func TestUnchangedResults(t *testing.T) {
	for name, f := range map[string]func(v api.Value) (api.Value, api.Errno){
		"Get":    func(v api.Value) (api.Value, api.Errno) { return conf.Get(v, "") },
		"Set":    func(v api.Value) (api.Value, api.Errno) { return conf.Set(null(), "", v) },
		"Merge":  func(v api.Value) (api.Value, api.Errno) { return conf.Merge(v, null()) },
		"Apply":  func(v api.Value) (api.Value, api.Errno) { return conf.Apply(v, nil) },
		"Expand": conf.Expand,
		"Fill":   func(v api.Value) (api.Value, api.Errno) { return conf.Fill(conf.Schema{}, v) },
		"Diff": func(v api.Value) (api.Value, api.Errno) {
			l, e := conf.Diff(null(), v)
			return l[0].Value, e
		},
	} {
		const text = `a [1 {b "x"}]; c {d []}`
		v := settings(t, text)
		got, e := f(v)
		expect(t, name, got, e, v, api.OK)
		spoil(got)
		expect(t, "the argument of "+name, v, api.OK, settings(t, text), api.OK)
	}
}

// Z2: lists of changes, fields and strings are neither changed nor kept.
func TestOtherLists(t *testing.T) {
	a := full(t)
	changes := append(a.changes, set("behind", num(1)))
	fields := append(a.schema.Fields, conf.Field{Route: "behind"})
	oneOf := []string{"a", "b", "behind"}
	a.changes, a.schema.Fields = changes[:3], fields[:3]
	fields[2].OneOf = oneOf[:2]
	v, _ := conf.SchemaValue(a.schema)
	s, _ := conf.ReadSchema(v)
	callAll(a)
	if changes[3].Route != "behind" || changes[0].Route != "a.0" || fields[3].Route != "behind" || fields[0].Route != "new" || !slices.Equal(oneOf, []string{"a", "b", "behind"}) {
		t.Errorf("%v, %v, %v", changes, fields, oneOf)
	}
	s.Fields[2].OneOf[0] = "spoilt"
	oneOf[0] = "spoilt"
	if again, e := conf.ReadSchema(v); e != api.OK || again.Fields[2].OneOf[0] != "a" {
		t.Errorf("%v, error %d", again, e)
	}
}

// Z2: to append to one list of a result changes no other one.
func TestResultsShareNoLists(t *testing.T) {
	var grow func(v api.Value)
	grow = func(v api.Value) {
		for _, item := range v.Items {
			grow(item)
		}
		_ = append(v.Items, num(99), num(99))
		_ = append(v.Keys, "grown", "grown")
	}
	parsed, _, _ := conf.Parse("a [1 {b [2 3]; c 4}] ; d {e {}; f 5}")
	for i, v := range append(values(full(t)), parsed) {
		before := show(v)
		grow(v)
		if after := show(v); after != before {
			t.Errorf("result %d: lists share memory:\n%s\n%s", i, before, after)
		}
	}
}

// Z5: empty and nil lists are the same.
func TestEmptyLists(t *testing.T) {
	var empty func(v api.Value) api.Value
	empty = func(v api.Value) api.Value {
		if len(v.Items) == 0 {
			v.Items = []api.Value{}
		}
		if len(v.Keys) == 0 {
			v.Keys = []string{}
		}
		for i, item := range v.Items {
			v.Items[i] = empty(item)
		}
		return v
	}
	a, b := full(t), full(t)
	b.v, b.x = empty(b.v), empty(b.x)
	for i := range b.changes {
		b.changes[i].Value = empty(b.changes[i].Value)
	}
	for i := range b.schema.Fields {
		b.schema.Fields[i].Default = empty(b.schema.Fields[i].Default)
		if len(b.schema.Fields[i].OneOf) == 0 {
			b.schema.Fields[i].OneOf = []string{}
		}
	}
	if callAll(a) != callAll(b) {
		t.Error("empty lists are not as nil ones are")
	}
	if callAll(arguments{}) != callAll(arguments{v: empty(null()), x: empty(null()), changes: []conf.Change{}, schema: conf.Schema{Fields: []conf.Field{}}}) {
		t.Error("empty arguments are not as nil ones are")
	}
}

// Z7: the same arguments give the same results, in whatever order goroutines run.
func TestSameResults(t *testing.T) {
	r := rand.New(rand.NewSource(10))
	var all []arguments
	var want []string
	for range 200 {
		a := anyArguments(r)
		all, want = append(all, a), append(want, callAll(a))
	}
	var wait sync.WaitGroup
	for range 8 {
		wait.Go(func() {
			for i, a := range all {
				if callAll(a) != want[i] {
					t.Errorf("%+v has other results the second time", a)
				}
			}
		})
	}
	wait.Wait()
}

// Z6 and P2.9: many changes of one value.
func TestManyChanges(t *testing.T) {
	var l []conf.Change
	for i := range 3000 {
		l = append(l, set(fmt.Sprint("a.", i), num(i)), set(fmt.Sprint("k", i), list(num(i))))
	}
	for i := range 3000 {
		l = append(l, gone("a.0"), gone(fmt.Sprint("k", i)))
	}
	got, e := conf.Apply(table(), l)
	expect(t, "many changes", got, e, table("a", list()), api.OK)
	got, e = conf.Apply(table(), l[:6000])
	expectError(t, "many changes that are left", got, e, api.ErrLarge)
}
