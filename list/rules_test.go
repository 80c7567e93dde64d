package list_test

import (
	"fmt"
	"math"
	"math/rand"
	"reflect"
	"slices"
	"strings"
	"sync"
	"testing"

	"masthead/api"
	"masthead/list"
)

// arguments are those of all calls of callAll.
type arguments struct {
	l, more    []api.Value
	c          list.Cond
	route      string
	keys       []list.Key
	weights    []list.Weight
	terms      []list.Term
	names      []string
	order      []int
	text, base string
	n, m, k    int
}

// results are all that calls return.
type results struct {
	errors    []api.Errno
	positions [][]int // of Where, Sort, Unique, Cloud, Window
	values    [3][]api.Value
	groups    []list.Group
	periods   []list.Period
	terms     []list.Term
	parts     []list.Part
	scores    []list.Score
	facts     []api.Named
	read      list.Cond
	numbers   []int
	texts     []string
	held      []bool
}

// callAll calls each function.
func callAll(a arguments) results {
	var r results
	var e api.Errno
	failed := func() { r.errors = append(r.errors, e) }
	found := func(l []int, err api.Errno) {
		r.positions, e = append(r.positions, l), err
		failed()
	}
	found(list.Where(a.l, a.c))
	found(list.Sort(a.l, a.keys))
	found(list.Unique(a.l, a.route))
	found(list.Cloud(a.terms, a.n))
	found(list.Window(a.n, a.m, a.k))
	for i, f := range []func(a, b []api.Value) ([]api.Value, api.Errno){list.Union, list.Meet, list.Minus} {
		r.values[i], e = f(a.l, a.more)
		failed()
	}
	r.groups, e = list.Groups(a.l, a.route)
	failed()
	r.periods, e = list.Periods(a.l, a.route)
	failed()
	r.terms, e = list.Terms(a.l, a.route)
	failed()
	r.parts, e = list.Pager(a.n, a.m)
	failed()
	r.scores, e = list.Related(a.l, a.weights, a.n, a.m)
	failed()
	r.facts, e = list.TermFacts(a.text, a.base, a.terms, a.names)
	failed()
	sum, e := list.Sum(a.l, a.route)
	least, greatest, e2 := list.Extremes(a.l, a.route)
	before, after, e3 := list.Near(a.order, a.n)
	s, e4 := list.CondString(a.c)
	term, e5 := list.TermAddress(a.base, a.text)
	part, e6 := list.PartAddress(a.base, a.n)
	read, where, e7 := list.ReadCond(a.text)
	r.read = read
	r.numbers = []int{sum, least, greatest, before, after, where}
	r.texts = []string{s, term, part}
	r.errors = append(r.errors, e, e2, e3, e4, e5, e6, e7, list.CheckCond(a.c))
	for _, v := range a.l {
		ok, e := list.Holds(a.c, v)
		r.held = append(r.held, ok)
		r.errors = append(r.errors, e, list.CheckItem(v))
	}
	return r
}

var strangeTexts = []string{"", "a", "A", "a..b", "a and b", "not (a", "a in [1 [", "and", "tags", "\x00", "\xff", "a = \"\\", "/", "/a/", "0.0", "a has \"x\"", strings.Repeat("(", 2000), strings.Repeat("a and ", 700) + "a", strings.Repeat("a.", 1000)}

func anyText(r *rand.Rand) string { return strangeTexts[r.Intn(len(strangeTexts))] }

func anyNumber(r *rand.Rand) int {
	return []int{0, 1, 2, 3, 5, -1, 100, list.MaxList, list.MaxList + 1, math.MinInt, math.MaxInt}[r.Intn(11)]
}

// anyValue is a value with fields that fit or do not.
func anyValue(r *rand.Rand, depth int) api.Value {
	if r.Intn(4) > 0 {
		return randomItem(r, depth)
	}
	v := api.Value{Kind: r.Intn(12) - 2, Bool: r.Intn(5) == 0, Int: []int{0, 0, 1, -1, math.MinInt, math.MaxInt}[r.Intn(6)], Text: []string{"", "", "a", "\x01"}[r.Intn(4)]}
	for range r.Intn(3) {
		if depth > 0 {
			v.Items = append(v.Items, anyValue(r, depth-1))
		}
	}
	for range r.Intn(3) {
		v.Keys = append(v.Keys, []string{"a", "b", "A", ""}[r.Intn(4)])
	}
	return v
}

// anyCond is a condition that is right or not.
func anyCond(r *rand.Rand, depth int) list.Cond {
	if r.Intn(3) > 0 {
		return randomCond(r, depth, 0)
	}
	c := list.Cond{Op: r.Intn(16) - 1, Route: anyText(r), Value: anyValue(r, 2)}
	for range r.Intn(3) {
		if depth > 0 {
			c.Kids = append(c.Kids, anyCond(r, depth-1))
		}
	}
	return c
}

// anyArguments are arguments that are right or not.
func anyArguments(r *rand.Rand) arguments {
	a := arguments{l: randomItems(r, 6), more: randomItems(r, 3), c: anyCond(r, 3), route: randomRoute(r), text: anyText(r), base: anyText(r), n: anyNumber(r), m: anyNumber(r), k: anyNumber(r)}
	for range r.Intn(4) {
		a.keys = append(a.keys, list.Key{Route: randomRoute(r), Down: r.Intn(2) == 0})
		a.weights = append(a.weights, list.Weight{Route: randomRoute(r), By: anyNumber(r)})
		a.terms = append(a.terms, list.Term{Name: anyText(r), Title: anyText(r), Items: []int{anyNumber(r), anyNumber(r)}[:r.Intn(3)]})
		a.names, a.order = append(a.names, anyText(r)), append(a.order, anyNumber(r))
	}
	switch r.Intn(6) {
	case 0:
		a.l = append(a.l, anyValue(r, 3))
	case 1:
		a.more = append(a.more, anyValue(r, 3))
	case 2:
		a.route = anyText(r)
		a.keys, a.weights = append(a.keys, list.Key{Route: a.route}), append(a.weights, list.Weight{Route: a.route, By: 1})
	}
	return a
}

// Z1: no call panics, whatever it is given.
func TestNothingPanics(t *testing.T) {
	r := rand.New(rand.NewSource(9))
	for range 3000 {
		callAll(anyArguments(r))
	}
	deep, wideOne, long := nested(100_000, num(1)), listOf(many(100_000, num(1))...), strings.Repeat("a.", 500_000)
	for _, v := range []api.Value{deep, wideOne, str(long), {Kind: api.Int, Items: deep.Items}, {Kind: api.Table, Keys: make([]string, 100_000), Items: wideOne.Items}} {
		for _, c := range []list.Cond{one(list.In, long, v), one(list.Not, "", v), nots(100_000), of(list.And, conds(100_000, there(long))...)} {
			a := arguments{l: []api.Value{v, v}, more: []api.Value{v}, c: c, route: long, text: long, base: long, n: math.MaxInt, m: math.MinInt, k: math.MaxInt}
			a.keys, a.weights, a.names = make([]list.Key, 100_000), make([]list.Weight, 100_000), make([]string, 100_000)
			a.terms, a.order = []list.Term{{Name: long, Title: long, Items: make([]int, 100_000)}}, make([]int, 100_000)
			callAll(a)
		}
	}
}

// full are arguments with which each function returns something.
func full(t *testing.T) arguments {
	t.Helper()
	a := arguments{
		l:     items(t, `a 2024-05-06; t ["x" "y"]; n 1; u {v [{w 1}]}`, `a 2024-05-06; t ["y" "z"]; n 2`, `a 2023-05-06; t "x"; n 1`, `a 2024-05-06; t ["x" "y"]; n 1; u {v [{w 1}]}`),
		more:  items(t, `a 2024-05-06; t ["y" "z"]; n 2`, `b {c [1 [2]]; d 3}`, `b {c [1 [2]]; d 3}`),
		route: "a", keys: []list.Key{{Route: "n"}, {Route: "t", Down: true}}, weights: []list.Weight{{Route: "t", By: 2}}, names: []string{"p", "q", "r"}, order: []int{4, 1, 7}, text: "tags", base: "/t/", n: 1, m: 1, k: 1,
		terms: []list.Term{{Name: "x", Title: "X", Items: []int{0, 1}}, {Name: "y", Title: "Y", Items: []int{0, 2}}},
	}
	a.c = of(list.And, there("t"), of(list.Or, one(list.In, "n", listOf(num(1), num(2))), of(list.Not, there("u.v.0"))))
	return a
}

// called are the results for full arguments; the terms and what is read have other arguments.
func called(a arguments) results {
	r := callAll(a)
	b := a
	b.route, b.text = "t", "a and (b or c in [1 \"x\"]) and not (d or e in [2])"
	other := callAll(b)
	r.terms, r.read = other.terms, other.read
	b.route, b.n, b.m = "u", 5, 2
	other = callAll(b)
	r.groups, r.parts = append(r.groups, other.groups...), other.parts
	return r
}

// span is the memory of a list, with what is after its length.
type span struct {
	from, to uintptr
	where    string
}

// spans are those of all lists in a value.
func spans(v reflect.Value, where string) []span {
	var l []span
	switch v.Kind() {
	case reflect.Struct:
		for i := range v.NumField() {
			l = append(l, spans(v.Field(i), where+"."+v.Type().Field(i).Name)...)
		}
	case reflect.Slice, reflect.Array:
		if v.Kind() == reflect.Slice && v.Cap() > 0 {
			l = append(l, span{v.Pointer(), v.Pointer() + uintptr(v.Cap())*v.Type().Elem().Size(), where})
		}
		for i := range v.Len() {
			l = append(l, spans(v.Index(i), fmt.Sprint(where, ".", i))...)
		}
	}
	return l
}

// Z2: arguments stay as they are, and results are in memory of their own, no two lists of them in the same.
func TestArgumentsAndResults(t *testing.T) {
	a := full(t)
	before := show(a)
	r := called(a)
	for i, e := range r.errors[:21] {
		if e != api.OK && i != 10 { // Terms, which has other arguments
			t.Fatalf("errors %v", r.errors)
		}
	}
	for i, n := range []int{len(r.positions[0]), len(r.positions[1]), len(r.positions[2]), len(r.positions[3]), len(r.positions[4]), len(r.values[0]), len(r.values[1]), len(r.values[2]), len(r.groups), len(r.periods), len(r.terms), len(r.parts), len(r.scores), len(r.facts), len(r.read.Kids)} {
		if n == 0 {
			t.Fatalf("result %d is nothing", i)
		}
	}
	if after := show(a); after != before {
		t.Errorf("the arguments have changed:\n%s\n%s", before, after)
	}
	if got := show(called(a)); got != show(r) {
		t.Errorf("other results the second time:\n%s\n%s", show(r), got)
	}
	results := spans(reflect.ValueOf(r), "result")
	if len(results) < 50 {
		t.Errorf("only %d lists", len(results))
	}
	arguments := spans(reflect.ValueOf(a), "argument")
	for i, x := range results {
		for _, y := range slices.Concat(results[:i], arguments) {
			if x.from < y.to && y.from < x.to {
				t.Errorf("%s and %s share memory", x.where, y.where)
			}
		}
	}
}

// Z2: what is after the length of a list stays as it is.
func TestBehindLists(t *testing.T) {
	a := full(t)
	var room func(l []api.Value) []api.Value
	var lists []func() bool
	room = func(l []api.Value) []api.Value {
		l = append(slices.Clone(l), num(77))[:len(l)]
		lists = append(lists, func() bool { return l[:len(l)+1][len(l)].Int == 77 })
		for i, v := range l {
			keys := append(slices.Clone(v.Keys), "behind")[:len(v.Keys)]
			lists = append(lists, func() bool { return keys[:len(keys)+1][len(keys)] == "behind" })
			l[i].Keys, l[i].Items = keys, room(v.Items)
		}
		return l
	}
	a.l, a.more = room(a.l), room(a.more)
	kids := append(slices.Clone(a.c.Kids), there("behind"))[:2]
	a.c.Kids = kids
	order, names := append(slices.Clone(a.order), 77)[:len(a.order)], append(slices.Clone(a.names), "behind")[:len(a.names)]
	keys, weights := append(slices.Clone(a.keys), list.Key{Route: "behind"})[:len(a.keys)], append(slices.Clone(a.weights), list.Weight{By: 77})[:len(a.weights)]
	terms := append(slices.Clone(a.terms), list.Term{Name: "behind"})[:len(a.terms)]
	terms[0].Items = append(slices.Clone(terms[0].Items), 77)[:2]
	a.order, a.names, a.keys, a.weights, a.terms = order, names, keys, weights, terms
	called(a)
	for i, same := range lists {
		if !same() {
			t.Errorf("what is behind list %d of values has changed", i)
		}
	}
	if kids[:3][2].Route != "behind" || order[:4][3] != 77 || names[:4][3] != "behind" || keys[:3][2].Route != "behind" || weights[:2][1].By != 77 || terms[:3][2].Name != "behind" || terms[0].Items[:3][2] != 77 {
		t.Error("what is behind a list has changed")
	}
}

// Z3: beside an error all is zero, but the position of ReadCond.
func TestErrorsAlone(t *testing.T) {
	r := rand.New(rand.NewSource(10))
	for range 2000 {
		x := callAll(anyArguments(r))
		lengths := []int{len(x.positions[0]), len(x.positions[1]), len(x.positions[2]), len(x.positions[3]), len(x.positions[4]), len(x.values[0]), len(x.values[1]), len(x.values[2]), len(x.groups), len(x.periods), len(x.terms), len(x.parts), len(x.scores), len(x.facts)}
		lengths = append(lengths, x.numbers[0], x.numbers[1]|x.numbers[2], x.numbers[3]|x.numbers[4], len(x.texts[0]), len(x.texts[1]), len(x.texts[2]), x.read.Op+len(x.read.Kids)+len(x.read.Route))
		for i, n := range lengths {
			if x.errors[i] != api.OK && n != 0 {
				t.Fatalf("result %d beside error %d", i, x.errors[i])
			}
		}
		if x.errors[20] == api.OK && x.numbers[5] != 0 {
			t.Fatalf("position %d without an error", x.numbers[5])
		}
		for i, held := range x.held {
			if x.errors[22+2*i] != api.OK && held {
				t.Fatalf("a condition holds beside error %d", x.errors[22+2*i])
			}
		}
	}
}

// Z5: empty and nil lists are the same.
func TestEmptyLists(t *testing.T) {
	a, b := full(t), full(t)
	var empty func(l []api.Value)
	empty = func(l []api.Value) {
		for i, v := range l {
			empty(v.Items)
			if len(v.Items) == 0 {
				l[i].Items = []api.Value{}
			}
			if len(v.Keys) == 0 {
				l[i].Keys = []string{}
			}
		}
	}
	empty(b.l)
	empty(b.more)
	b.c.Value = api.Value{Items: []api.Value{}, Keys: []string{}}
	b.c.Kids[0].Kids, b.c.Kids[0].Value = []list.Cond{}, b.c.Value
	if got, want := show(called(b)), show(called(a)); got != want {
		t.Errorf("empty lists are not as nil ones are:\n%s\n%s", got, want)
	}
	c := arguments{l: []api.Value{}, more: []api.Value{}, keys: []list.Key{}, weights: []list.Weight{}, terms: []list.Term{}, names: []string{}, order: []int{}}
	for _, x := range []*arguments{{text: "tags", base: "/", n: 1, m: 1}, {}} {
		c.text, c.base, c.n, c.m = x.text, x.base, x.n, x.m
		if show(callAll(*x)) != show(callAll(c)) {
			t.Error("empty arguments are not as nil ones are")
		}
	}
	twins := []api.Value{listOf(), {Kind: api.List, Items: []api.Value{}, Keys: []string{}}}
	got, e := list.Unique(twins, "")
	expect(t, "an empty and a nil list", got, e, []int{0}, api.OK)
}

// Z7: the same arguments give the same results, in whatever order goroutines run.
func TestSameResults(t *testing.T) {
	r := rand.New(rand.NewSource(11))
	var all []arguments
	var want []string
	for range 300 {
		a := anyArguments(r)
		all, want = append(all, a), append(want, show(callAll(a)))
	}
	var wait sync.WaitGroup
	for range 8 {
		wait.Go(func() {
			for i, a := range all {
				if show(callAll(a)) != want[i] {
					t.Errorf("%+v has other results the second time", a)
				}
			}
		})
	}
	wait.Wait()
}

// Z6: lists as large as can be.
func TestLargeLists(t *testing.T) {
	var l []api.Value
	for i := range list.MaxList {
		tags := listOf()
		for j := range 20 {
			tags.Items = append(tags.Items, str("t"+show((i+j*7)%100)))
		}
		l = append(l, table("d", day(i*40), "n", num(i%500), "t", tags))
	}
	a := arguments{l: l, more: l, c: there("d"), route: "d", keys: []list.Key{{Route: "t", Down: true}, {Route: "n"}}, weights: []list.Weight{{Route: "t", By: list.MaxWeight}}, n: 1, m: list.MaxList}
	r := callAll(a)
	if len(r.positions[0]) != list.MaxList || len(r.positions[1]) != list.MaxList || len(r.values[1]) != list.MaxList || len(r.groups) != list.MaxList || len(r.periods) < 2000 || len(r.scores) < 100 {
		t.Errorf("errors %v", r.errors)
	}
	a.route = "t"
	if r := callAll(a); len(r.terms) != 100 {
		t.Errorf("%d terms, errors %v", len(r.terms), r.errors)
	}
}
