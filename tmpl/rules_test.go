package tmpl_test

import (
	"fmt"
	"math"
	"math/rand"
	"reflect"
	"slices"
	"strings"
	"sync"
	"testing"

	"masthead/api"
	"masthead/tmpl"
)

// arguments are those of all calls of callAll.
type arguments struct {
	text, name string
	nodes      []tmpl.Node
	x          tmpl.Expr
	set        []tmpl.Source
	v, w       api.Value
	args       []api.Value
	facts      []api.Named
	pieces     []tmpl.Piece
}

// results are all that calls return.
type results struct {
	nodes    []tmpl.Node
	exprs    []tmpl.Expr
	contexts []int
	calls    []string
	run      tmpl.Result
	values   []api.Value
	reads    []string
	numbers  []int
	texts    []string
	errors   []api.Errno
	fault    tmpl.Fault
	truth    bool
}

// callAll calls each function.
func callAll(a arguments) results {
	var r results
	note := func(e api.Errno) { r.errors = append(r.errors, e) }
	l, at, e := tmpl.Parse(a.text)
	r.nodes = l
	note(e)
	s, e := tmpl.Print(a.nodes)
	note(e)
	x, e := tmpl.ParseExpr(a.text)
	r.exprs = []tmpl.Expr{x}
	note(e)
	s2, e := tmpl.PrintExpr(a.x)
	note(e)
	r.contexts, e = tmpl.Contexts(a.text)
	note(e)
	r.calls, e = tmpl.Calls(a.text)
	note(e)
	r.fault = tmpl.Check(a.set)
	r.run, e = tmpl.Run(a.set, a.name, a.v, a.facts)
	note(e)
	v, reads, e := tmpl.Eval(a.x, a.v, a.facts)
	r.reads = reads
	note(e)
	v2, e := tmpl.Apply(a.name, a.args)
	note(e)
	s3, e := tmpl.Show(a.v)
	note(e)
	n, e := tmpl.Compare(a.v, a.w)
	note(e)
	s4, e := tmpl.Quote(a.v)
	note(e)
	v3, e := tmpl.Unquote(a.text)
	note(e)
	r.truth = tmpl.Truth(a.v)
	r.values = []api.Value{v, v2, v3}
	r.numbers = []int{at, n}
	r.texts = []string{s, s2, s3, s4, tmpl.String(a.pieces), tmpl.Skeleton(a.pieces), tmpl.EscapeAddr(a.text, true), tmpl.EscapeAddr(a.text, false)}
	return r
}

var strangeTexts = []string{"", "a", "{{", "{{}}", "{{ . }}", "{{ if", "{{ if . }}", "{{ end }}", "{{#", "{{ \"", "\"\\", "<p a=\"{{ . }}\">", "<script> {{ . }} </script>", "<", "</", "<!--", "<title>", "</title", "[1,{\"a\":null}]", ".a.b[0]", "len(.)", "not not", "\x00", "\xff", "page:/", "a/b", "{{ call \"a\" . }}", "{{ each x in . }}{{ $x }}{{ end }}", "{{ let x = . }}", "(((", ".a[", "1 <", "add(1, 2)", "replace(., ., .)", "{{ with .a }}{{ .b }}{{ else if . }}"}

func anyText(r *rand.Rand) string {
	s := strangeTexts[r.Intn(len(strangeTexts))]
	if r.Intn(2) == 0 {
		s += strangeTexts[r.Intn(len(strangeTexts))]
	}
	return s
}

func anyNumber(r *rand.Rand) int {
	return []int{0, 0, 1, 2, -1, 1000, api.MaxDay, api.MaxDay + 1, math.MinInt, math.MaxInt}[r.Intn(10)]
}

// anyValue is a value with fields that fit or do not.
func anyValue(r *rand.Rand, deep int) api.Value {
	v := api.Value{Kind: r.Intn(9), Bool: r.Intn(2) == 0, Int: anyNumber(r), Text: []string{"", "a", "b", "<", "a,b"}[r.Intn(5)]}
	if r.Intn(20) == 0 {
		v.Kind = anyNumber(r)
	}
	for range r.Intn(4) {
		if deep > 0 {
			v.Items = append(v.Items, anyValue(r, deep-1))
		}
	}
	for range r.Intn(4) {
		v.Keys = append(v.Keys, []string{"a", "b", "A", ""}[r.Intn(4)])
	}
	return v
}

// anyExpr is an expression that is right or not.
func anyExpr(r *rand.Rand, deep int) tmpl.Expr {
	x := randomExpr(r, deep)
	switch r.Intn(8) {
	case 0:
		x.Kind = anyNumber(r)
	case 1:
		x.Value = anyValue(r, 1)
	case 2:
		x.Args = append(x.Args, anyExpr(r, deep-1))
	case 3:
		x.Name = anyText(r)
	}
	return x
}

var functionNames = []string{"len", "upper", "lower", "trim", "slug", "plain", "default", "join", "split", "replace", "first", "last", "reverse", "sort", "where", "has", "keys", "add", "sub", "mul", "div", "mod", "string", "year", "month", "day", "fact", "list", "foo"}

// anyArguments are arguments that are right or not.
func anyArguments(r *rand.Rand) arguments {
	a := arguments{text: anyText(r), name: functionNames[r.Intn(len(functionNames))], x: anyExpr(r, 4), v: anyValue(r, 3), w: anyValue(r, 1)}
	a.nodes = randomNodes(r, 3)
	if len(a.nodes) > 0 && r.Intn(2) == 0 {
		n := &a.nodes[r.Intn(len(a.nodes))]
		n.Kind, n.Text = r.Intn(9), anyText(r)
		n.Body = append(n.Body, a.nodes[0])
	}
	for range r.Intn(4) {
		a.args = append(a.args, anyValue(r, 2))
		a.facts = append(a.facts, api.Named{Name: []string{"", "a", "b"}[r.Intn(3)], Value: anyValue(r, 2)})
		a.pieces = append(a.pieces, tmpl.Piece{Context: r.Intn(8) - 1, Text: anyText(r)})
	}
	a.set = set("a", anyText(r), a.name, anyText(r))[r.Intn(2):]
	return a
}

// Z1: no call panics, whatever it is given.
func TestNothingPanics(t *testing.T) {
	r := rand.New(rand.NewSource(8))
	for range 6000 {
		callAll(anyArguments(r))
	}
	deep, long := nested(100_000, num(1)), strings.Repeat("a.", 100_000)
	x := nots(100_000)
	for _, v := range []api.Value{deep, listOf(many(100_000, num(1))...), str(long), {Kind: api.Int, Items: deep.Items}, {Kind: api.Table, Keys: make([]string, 100_000), Items: deep.Items}} {
		for _, name := range append(functionNames, long) {
			for n := range 4 {
				tmpl.Apply(name, many(n, v))
			}
		}
		callAll(arguments{text: long, name: long, x: x, nodes: ifs(100_000, insert(x)), v: v, w: v, facts: []api.Named{{Name: long, Value: v}}, pieces: []tmpl.Piece{{Context: math.MinInt, Text: long}}, set: set("x", "{{ . }}", "y", long)})
		tmpl.Run(set("x", "{{ . }}"), "x", v, nil)
		tmpl.Run(set("x", "<script> {{ . }} </script>{{ each x in . }}{{ end }}"), "x", v, nil)
		tmpl.Eval(of(tmpl.Func, "list", dot(), dot()), v, nil)
		tmpl.Eval(dot(), v, nil)
	}
}

// full are arguments with which each function returns something.
func full(t *testing.T) arguments {
	t.Helper()
	nodes, _, e := tmpl.Parse("a{{ .b }}{{ if .a }}{{ each x in list(., 1) }}b{{ $x[0] }}{{ else }}c{{ end }}{{ else if 1 }}d{{ end }}")
	if e != api.OK {
		t.Fatalf("error %d", e)
	}
	v := table("a", listOf(num(1), table("k", listOf(str("x")))), "b", str("B"), "c", fact("f"))
	return arguments{
		text: "{{ .a }}<p a=\"{{ add(1, 2) }}\">{{ if . }}{{ let x = not . }}{{ else if . }}c{{ end }}{{ call \"b\" . }}{{ call \"a\" . }}",
		name: "list", nodes: nodes, x: expr(t, "list(default(.a, 1), list(fact(\"f\").l, . and 1))"),
		set: set("b", "b{{ if .k }}c{{ end }}", "list", "{{ each x in .a }}{{ call \"b\" $x }}{{ fact(\"f\").k }}{{ end }}"),
		v:   v, w: v, args: args(v, listOf(v, listOf())),
		facts: []api.Named{{Name: "f", Value: table("k", num(1), "l", listOf(num(1), listOf(num(2))))}}, pieces: []tmpl.Piece{piece(0, "a"), piece(1, "b")},
	}
}

// called are the results for full arguments; what is read and quoted has others.
func called(a arguments) results {
	r := callAll(a)
	b := a
	b.text, b.name, b.args = "[1,{\"a\":[2],\"b\":{}},[[]]]", "default", a.args[:2]
	more := callAll(b)
	r.values = append(r.values, more.values[1:]...)
	b.text = "add(len(.a), .b[.c or not .d])"
	r.exprs = append(r.exprs, callAll(b).exprs[0])
	b.name, b.args = "sort", args(listOf(table("k", num(2), "l", listOf(num(1))), table("k", num(1))), str("k"))
	r.values = append(r.values, callAll(b).values[1])
	for _, name := range []string{"reverse", "keys"} {
		b.name, b.args = name, b.args[:1]
		if name == "keys" {
			b.args = args(table("a", num(1), "b", num(2)))
		}
		r.values = append(r.values, callAll(b).values[1])
	}
	for _, name := range []string{"first", "last", "has"} {
		b.name, b.args = name, args(listOf(listOf(num(1)), listOf(num(2))), num(1))
		r.values = append(r.values, callAll(b).values[1])
	}
	b.name, b.args = "where", args(listOf(table("k", num(1), "l", listOf(num(1)))), str("k"), num(1))
	r.values = append(r.values, callAll(b).values[1])
	for _, x := range []tmpl.Expr{dot(), of(tmpl.Field, "a", dot()), of(tmpl.At, "", of(tmpl.Field, "a", dot()), constant(num(1)))} {
		b.x = x
		r.values = append(r.values, callAll(b).values[0])
	}
	return r
}

// span is the memory of a list, with what is after its length.
type span struct {
	from, to uintptr
	where    string
}

// spans are those of all lists in a value.
func spans(v reflect.Value, where string) []span {
	var l []span
	switch v.Kind() {
	case reflect.Struct:
		for i := range v.NumField() {
			l = append(l, spans(v.Field(i), where+"."+v.Type().Field(i).Name)...)
		}
	case reflect.Slice, reflect.Array:
		if v.Kind() == reflect.Slice && v.Cap() > 0 {
			l = append(l, span{v.Pointer(), v.Pointer() + uintptr(v.Cap())*v.Type().Elem().Size(), where})
		}
		for i := range v.Len() {
			l = append(l, spans(v.Index(i), fmt.Sprint(where, ".", i))...)
		}
	}
	return l
}

// Z2: arguments stay as they are, and results are in memory of their own, no two lists of them in the same.
func TestArgumentsAndResults(t *testing.T) {
	a := full(t)
	before := show(a)
	r := called(a)
	for i, e := range r.errors {
		if e != api.OK && i != 2 && i < 9 { // ParseExpr has no expression, Show and the others no plain value
			t.Fatalf("errors %v", r.errors)
		}
	}
	for i, v := range r.values {
		if v.Kind == api.Nil && i != 2 {
			t.Errorf("value %d is nothing", i)
		}
	}
	if len(r.nodes) < 5 || len(r.contexts) != 2 || len(r.calls) != 2 || len(r.run.Pieces) != 5 || len(r.run.Reads) != 3 || len(r.reads) != 1 || len(r.exprs[1].Args) != 2 {
		t.Fatalf("%+v", r)
	}
	if after := show(a); after != before {
		t.Errorf("the arguments have changed:\n%s\n%s", before, after)
	}
	if got := show(called(a)); got != show(r) {
		t.Errorf("other results the second time:\n%s\n%s", show(r), got)
	}
	results := spans(reflect.ValueOf(r), "result")
	if len(results) < 60 {
		t.Errorf("only %d lists", len(results))
	}
	arguments := spans(reflect.ValueOf(a), "argument")
	for i, x := range results {
		for _, y := range slices.Concat(results[:i], arguments) {
			if x.from < y.to && y.from < x.to {
				t.Errorf("%s and %s share memory", x.where, y.where)
			}
		}
	}
}

// Z2: what is after the length of a list stays as it is.
func TestBehindLists(t *testing.T) {
	a := full(t)
	var lists []func() bool
	var roomy func(v api.Value) api.Value
	room := func(l []api.Value) []api.Value {
		l = append(slices.Clone(l), num(77))[:len(l)]
		lists = append(lists, func() bool { return l[:len(l)+1][len(l)].Int == 77 })
		for i, v := range l {
			l[i] = roomy(v)
		}
		return l
	}
	roomy = func(v api.Value) api.Value {
		keys := append(slices.Clone(v.Keys), "behind")[:len(v.Keys)]
		lists = append(lists, func() bool { return keys[:len(keys)+1][len(keys)] == "behind" })
		v.Keys, v.Items = keys, room(v.Items)
		return v
	}
	var roomyNodes func(l []tmpl.Node) []tmpl.Node
	roomyNodes = func(l []tmpl.Node) []tmpl.Node {
		l = append(slices.Clone(l), tmpl.Node{Kind: 77})[:len(l)]
		lists = append(lists, func() bool { return l[:len(l)+1][len(l)].Kind == 77 })
		for i, n := range l {
			l[i].Body, l[i].Else = roomyNodes(n.Body), roomyNodes(n.Else)
		}
		return l
	}
	a.v, a.w, a.args, a.nodes = roomy(a.v), roomy(a.w), room(a.args), roomyNodes(a.nodes)
	a.facts[0].Value = roomy(a.facts[0].Value)
	x := append(slices.Clone(a.x.Args), tmpl.Expr{Kind: 77})[:len(a.x.Args)]
	facts := append(slices.Clone(a.facts), api.Named{Name: "behind"})[:1]
	sources := append(slices.Clone(a.set), tmpl.Source{Name: "behind"})[:2]
	pieces := append(slices.Clone(a.pieces), piece(77, ""))[:2]
	a.x.Args, a.facts, a.set, a.pieces = x, facts, sources, pieces
	called(a)
	for i, same := range lists {
		if !same() {
			t.Errorf("what is behind list %d has changed", i)
		}
	}
	if x[:3][2].Kind != 77 || facts[:2][1].Name != "behind" || sources[:3][2].Name != "behind" || pieces[:3][2].Context != 77 {
		t.Error("what is behind a list has changed")
	}
}

// Z3: beside an error all is zero, but the position of Parse.
func TestErrorsAlone(t *testing.T) {
	r := rand.New(rand.NewSource(9))
	none := show(api.Value{})
	for range 5000 {
		x := callAll(anyArguments(r))
		zero := []bool{x.nodes == nil, x.texts[0] == "", show(x.exprs[0]) == show(tmpl.Expr{}), x.texts[1] == "", x.contexts == nil, x.calls == nil, show(x.run) == show(tmpl.Result{}), show(x.values[0]) == none && x.reads == nil, show(x.values[1]) == none, x.texts[2] == "", x.numbers[1] == 0, x.texts[3] == "", show(x.values[2]) == none}
		for i, e := range x.errors {
			if e != api.OK && !zero[i] {
				t.Fatalf("result %d beside error %d: %+v", i, e, x)
			}
		}
		if x.errors[0] == api.OK && x.numbers[0] != 0 || x.fault.E == api.OK && x.fault != (tmpl.Fault{}) {
			t.Fatalf("positions %d and %+v without an error", x.numbers[0], x.fault)
		}
	}
}

// Z5: empty and nil lists are the same.
func TestEmptyLists(t *testing.T) {
	a, b := full(t), full(t)
	var empty func(l []api.Value)
	empty = func(l []api.Value) {
		for i, v := range l {
			empty(v.Items)
			if len(v.Items) == 0 {
				l[i].Items = []api.Value{}
			}
			if len(v.Keys) == 0 {
				l[i].Keys = []string{}
			}
		}
	}
	var emptyNodes func(l []tmpl.Node)
	emptyNodes = func(l []tmpl.Node) {
		for i := range l {
			emptyNodes(l[i].Body)
			emptyNodes(l[i].Else)
			if len(l[i].Body) == 0 {
				l[i].Body = []tmpl.Node{}
			}
			if len(l[i].Else) == 0 {
				l[i].Else = []tmpl.Node{}
			}
			if len(l[i].Expr.Args) == 0 {
				l[i].Expr.Args = []tmpl.Expr{}
			}
			l[i].Expr.Value = api.Value{Kind: l[i].Expr.Value.Kind, Int: l[i].Expr.Value.Int, Items: []api.Value{}, Keys: []string{}}
		}
	}
	b.v.Items[1], b.w.Items[1] = str("B"), str("B")
	empty(b.v.Items)
	empty(b.w.Items)
	empty(b.args)
	emptyNodes(b.nodes)
	if got, want := show(called(b)), show(called(a)); got != want {
		t.Errorf("empty lists are not as nil ones are:\n%s\n%s", got, want)
	}
	c := arguments{nodes: []tmpl.Node{}, set: []tmpl.Source{}, args: []api.Value{}, facts: []api.Named{}, pieces: []tmpl.Piece{}, x: tmpl.Expr{Args: []tmpl.Expr{}}}
	if show(callAll(c)) != show(callAll(arguments{})) {
		t.Error("empty arguments are not as nil ones are")
	}
	for _, v := range []api.Value{listOf(), {Kind: api.List, Items: []api.Value{}, Keys: []string{}}} {
		if s, e := tmpl.Quote(v); tmpl.Truth(v) || s != "[]" || e != api.OK {
			t.Errorf("an empty list: %q, error %d", s, e)
		}
	}
}

// Z7: the same arguments give the same results, in whatever order goroutines run.
func TestSameResults(t *testing.T) {
	r := rand.New(rand.NewSource(10))
	var all []arguments
	var want []string
	for range 300 {
		a := anyArguments(r)
		all, want = append(all, a), append(want, show(callAll(a)))
	}
	var wait sync.WaitGroup
	for range 8 {
		wait.Go(func() {
			for i, a := range all {
				if show(callAll(a)) != want[i] {
					t.Errorf("%+v has other results the second time", a)
				}
			}
		})
	}
	wait.Wait()
}

// Z6: sets and runs as large as can be.
func TestLargeSets(t *testing.T) {
	var templates []tmpl.Source
	for i := range tmpl.MaxTemplates {
		templates = append(templates, tmpl.Source{Name: fmt.Sprintf("t%02d", i), Text: strings.Repeat("<p class=\"{{ .a }}\">{{ default(.b, 1) }}</p>", 450)[:19_800]})
	}
	dot := table("a", str("<"), "b", num(0))
	if fault := tmpl.Check(templates); fault.E != api.OK {
		t.Fatalf("%+v", fault)
	}
	x, e := tmpl.Run(templates, "t30", dot, nil)
	if e != api.OK || !strings.HasPrefix(tmpl.String(x.Pieces), "<p class=\"&lt;\">1</p><p") {
		t.Errorf("error %d, %d pieces", e, len(x.Pieces))
	}
	var facts []api.Named
	var items []api.Value
	for i := range 4000 {
		facts, items = append(facts, api.Named{Name: fmt.Sprint(i), Value: num(i)}), append(items, num(i))
	}
	x, e = tmpl.Run(set("x", "{{ each x in . }}{{ fact($x) }}{{ end }}"), "x", listOf(items...), facts)
	if e != api.OK || len(x.Pieces) != 4000 || len(x.Reads) != 4001 {
		t.Errorf("error %d, %d pieces, %d reads", e, len(x.Pieces), len(x.Reads))
	}
}
