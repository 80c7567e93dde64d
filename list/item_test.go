package list_test

import (
	"math"
	"testing"

	"masthead/api"
	"masthead/conf"
	"masthead/list"
)

// Chapter 4, CheckItem: as conf.Check, but with facts and markup, and larger.
func TestCheckItem(t *testing.T) {
	for name, c := range map[string]struct {
		v    api.Value
		want api.Errno
	}{
		"nothing":                        {null(), api.OK},
		"yes":                            {truth(true), api.OK},
		"the least number":               {num(math.MinInt), api.OK},
		"the last day":                   {day(api.MaxDay), api.OK},
		"a string":                       {str("\t\n\xff"), api.OK},
		"markup":                         {safe("<b>"), api.OK},
		"no markup":                      {safe(""), api.OK},
		"a fact":                         {fact("page:/"), api.OK},
		"a list of all":                  {listOf(null(), safe("a"), fact("b"), listOf(), table()), api.OK},
		"a table of all":                 {table("a", fact("a"), "b", table("a", safe("x"))), api.OK},
		"a kind below all":               {other(-1), api.ErrKind},
		"a kind above all":               {other(api.Fact + 1), api.ErrKind},
		"a kind in a list":               {listOf(num(1), other(9)), api.ErrKind},
		"a kind in a table":              {table("a", other(9)), api.ErrKind},
		"as many values as can be":       {listOf(many(list.MaxInner-1, null())...), api.OK},
		"one more":                       {listOf(many(list.MaxInner, null())...), api.ErrLarge},
		"as many in two lists":           {listOf(listOf(many(2000, num(1))...), listOf(many(2997, num(1))...)), api.OK},
		"one more in two lists":          {listOf(listOf(many(2000, num(1))...), listOf(many(2998, num(1))...)), api.ErrLarge},
		"very many":                      {listOf(many(1_000_000, null())...), api.ErrLarge},
		"very deep":                      {nested(200_000, null()), api.ErrLarge},
		"10 levels":                      {nested(conf.MaxDepth+1, num(1)), api.OK},
		"11 levels":                      {nested(conf.MaxDepth+2, num(1)), api.ErrDeep},
		"11 levels in a table":           {table("a", num(1), "b", nested(conf.MaxDepth+1, listOf())), api.ErrDeep},
		"large before deep":              {listOf(nested(conf.MaxDepth+2, num(1)), listOf(many(list.MaxInner, null())...)), api.ErrLarge},
		"deep before a kind":             {listOf(other(9), nested(conf.MaxDepth+2, num(1))), api.ErrDeep},
		"large before a kind":            {listOf(many(list.MaxInner, other(9))...), api.ErrLarge},
		"a day below all":                {day(-1), api.ErrRange},
		"a day above all":                {day(api.MaxDay + 1), api.ErrRange},
		"a large string":                 {str(wide(conf.MaxString + 1)), api.ErrLarge},
		"large markup":                   {safe(wide(conf.MaxString + 1)), api.ErrLarge},
		"a large fact":                   {fact(wide(conf.MaxString + 1)), api.ErrLarge},
		"the largest fact":               {fact(wide(conf.MaxString)), api.OK},
		"a byte in a string":             {str("a\r"), api.ErrByte},
		"a byte in markup":               {safe("\x00"), api.ErrByte},
		"a byte in a fact":               {listOf(fact("\x1f")), api.ErrByte},
		"an earlier value first":         {listOf(listOf(str("\x00")), other(9)), api.ErrByte},
		"a value before its items":       {api.Value{Kind: api.Table, Keys: []string{"A"}, Items: []api.Value{other(9)}}, api.ErrName},
		"no key":                         {table("", null()), api.ErrName},
		"a key with a capital":           {table("A", null()), api.ErrName},
		"a key that begins with a digit": {table("1", null()), api.ErrName},
		"a long key":                     {table(wide(api.MaxPart+1), null()), api.ErrName},
		"the longest key":                {table(wide(api.MaxPart), null()), api.OK},
		"keys not in order":              {table("b", null(), "a", null()), api.ErrOrder},
		"a key twice":                    {table("b", null(), "b", null()), api.ErrOrder},
		"a key not in order before none": {table("b", null(), "a", null(), "A", null()), api.ErrOrder},
		"no key before the order":        {table("b", null(), "A", null(), "a", null()), api.ErrName},
		"more than conf's values":        {table("a", listOf(many(conf.MaxValues, null())...), "b", null()), api.OK},
	} {
		if e := list.CheckItem(c.v); e != c.want {
			t.Errorf("%s: error %d, want %d", name, e, c.want)
		}
	}
}

// Chapter 4, CheckItem: a field that a kind does not use is zero.
func TestCheckItemFields(t *testing.T) {
	for _, f := range []struct {
		name string
		set  func(v *api.Value)
		used []int
	}{
		{"Bool", func(v *api.Value) { v.Bool = true }, []int{api.Bool}},
		{"Int", func(v *api.Value) { v.Int = 1 }, []int{api.Int, api.Day}},
		{"Text", func(v *api.Value) { v.Text = "a" }, []int{api.String, api.Safe, api.Fact}},
		{"Items", func(v *api.Value) { v.Items = many(1, null()) }, []int{api.List}},
		{"many Items", func(v *api.Value) { v.Items = many(3000, null()) }, []int{api.List}},
		{"Keys", func(v *api.Value) { v.Keys = []string{"a"} }, nil},
		{"Keys and Items", func(v *api.Value) { v.Keys, v.Items = []string{"a"}, many(1, null()) }, []int{api.Table}},
		{"more Keys", func(v *api.Value) { v.Keys, v.Items = []string{"a", "b"}, many(1, null()) }, nil},
		{"more Items", func(v *api.Value) { v.Keys, v.Items = []string{"a"}, many(2, null()) }, nil},
		{"no key and more Items", func(v *api.Value) { v.Keys, v.Items = []string{""}, many(2, null()) }, nil},
		{"empty lists", func(v *api.Value) { v.Keys, v.Items = []string{}, []api.Value{} }, []int{0, 1, 2, 3, 4, 5, 6, 7, 8}},
	} {
		for kind := api.Nil; kind <= api.Fact; kind++ {
			v, want := other(kind), api.ErrForm
			f.set(&v)
			for _, used := range f.used {
				if used == kind {
					want = api.OK
				}
			}
			if e := list.CheckItem(v); e != want {
				t.Errorf("%s of kind %d: error %d, want %d", f.name, kind, e, want)
			}
			if e := list.CheckItem(listOf(v)); e != want {
				t.Errorf("%s of kind %d in a list: error %d, want %d", f.name, kind, e, want)
			}
		}
	}
}

// Chapter 4, CheckItem: what conf.Check allows is an item, and what it does not for its form is none.
func TestCheckItemLikeConf(t *testing.T) {
	for _, v := range []api.Value{
		other(-1), other(9), day(-1), str("\x01"), table("A", null()), table("b", null(), "a", null()), {Kind: api.Bool, Int: 1}, {Kind: api.Nil, Items: many(1, other(9))},
		{Kind: api.Int, Text: "a", Items: many(1, null())}, {Kind: api.List, Keys: []string{"a"}}, {Kind: api.Table, Keys: []string{"a"}}, {Kind: api.Table, Keys: []string{"a"}, Text: "\x01"},
	} {
		if e, want := list.CheckItem(v), conf.Check(v); e != want {
			t.Errorf("%s: error %d, want %d", show(v), e, want)
		}
	}
}

// listCall is a function with a list; the result is written. A route that is not used is not looked at.
type listCall struct {
	name   string
	routed bool
	call   func(l []api.Value, route string) (string, api.Errno)
}

func written[T any](x T, e api.Errno) (string, api.Errno) { return show(x), e }

func listCalls() []listCall {
	return []listCall{
		{"Where", false, func(l []api.Value, route string) (string, api.Errno) { return written(list.Where(l, there("a"))) }},
		{"Sort", true, func(l []api.Value, route string) (string, api.Errno) {
			return written(list.Sort(l, []list.Key{{Route: "a"}, {Route: route, Down: true}}))
		}},
		{"Groups", true, func(l []api.Value, route string) (string, api.Errno) { return written(list.Groups(l, route)) }},
		{"Periods", true, func(l []api.Value, route string) (string, api.Errno) { return written(list.Periods(l, route)) }},
		{"Unique", true, func(l []api.Value, route string) (string, api.Errno) { return written(list.Unique(l, route)) }},
		{"Union", false, func(l []api.Value, route string) (string, api.Errno) { return written(list.Union(l, nil)) }},
		{"Meet", false, func(l []api.Value, route string) (string, api.Errno) { return written(list.Meet(l, l)) }},
		{"Minus", false, func(l []api.Value, route string) (string, api.Errno) { return written(list.Minus(l, nil)) }},
		{"Union of b", false, func(l []api.Value, route string) (string, api.Errno) { return written(list.Union(nil, l)) }},
		{"Meet of b", false, func(l []api.Value, route string) (string, api.Errno) { return written(list.Meet(nil, l)) }},
		{"Minus of b", false, func(l []api.Value, route string) (string, api.Errno) { return written(list.Minus(nil, l)) }},
		{"Sum", true, func(l []api.Value, route string) (string, api.Errno) { return written(list.Sum(l, route)) }},
		{"Extremes", true, func(l []api.Value, route string) (string, api.Errno) {
			least, greatest, e := list.Extremes(l, route)
			return show([]int{least, greatest}), e
		}},
		{"Terms", true, func(l []api.Value, route string) (string, api.Errno) { return written(list.Terms(l, route)) }},
		{"Related", true, func(l []api.Value, route string) (string, api.Errno) {
			return written(list.Related(l, []list.Weight{{Route: "t", By: 1}, {Route: route, By: 1}}, 0, 1))
		}},
	}
}

// Chapter 4: the errors of a list come first, then that of a route.
func TestListErrors(t *testing.T) {
	good := table("a", str("x"))
	full := many(list.MaxList, good)
	for _, c := range listCalls() {
		for name, x := range map[string]struct {
			l     []api.Value
			route string
			want  api.Errno
		}{
			"as many as can be":  {full, "a", api.OK},
			"one more":           {many(list.MaxList+1, good), "a..b", api.ErrLarge},
			"large before kinds": {many(list.MaxList+1, other(9)), "a", api.ErrLarge},
			"a kind":             {[]api.Value{good, other(9), {Kind: api.Bool, Int: 1}}, "a..b", api.ErrKind},
			"a form":             {[]api.Value{good, {Kind: api.Bool, Int: 1}, other(9)}, "a..b", api.ErrForm},
			"a large item":       {[]api.Value{listOf(many(list.MaxInner, null())...)}, "a", api.ErrLarge},
			"a deep item":        {[]api.Value{nested(conf.MaxDepth+2, null())}, "a", api.ErrDeep},
		} {
			got, e := c.call(x.l, x.route)
			if e != x.want || e != api.OK && got != "[]" && got != "0" && got != "[0 0]" {
				t.Errorf("%s, %s: error %d, want %d; beside it %s", c.name, name, e, x.want, short(got))
			}
		}
		if !c.routed {
			continue
		}
		for _, route := range []string{"a..b", ".", "A", "a.", "*", "-", "10000", "01", "a b", "ö", wide(api.MaxPart + 1), routeOf(conf.MaxRoute + 1)} {
			if got, e := c.call([]api.Value{good}, route); e != api.ErrPath || got != "[]" && got != "0" && got != "[0 0]" {
				t.Errorf("%s with the route %s: error %d; beside it %s", c.name, short(route), e, short(got))
			}
		}
		for _, route := range []string{"", "a", "a.0", "9999", routeOf(conf.MaxRoute)} {
			if _, e := c.call([]api.Value{good, table("b", str("x"))}, route); e == api.ErrPath {
				t.Errorf("%s with the route %s: error %d", c.name, short(route), e)
			}
		}
	}
}

// routeOf is a route of so many bytes.
func routeOf(n int) string {
	b := make([]byte, n)
	for i := range b {
		b[i] = "0."[i%2]
	}
	if n%2 == 0 {
		b[n-1] = '0' // so the last part has two digits
		b[n-2] = '1'
	}
	return string(b)
}

// Chapter 4: what a value has at a route.
func TestHas(t *testing.T) {
	v := items(t, `a [1 [2 {b 3}] nil]; c {d {e 4}; f no}; n 5`)[0]
	for route, want := range map[string]api.Value{
		"": v, "a.0": num(1), "a.1.0": num(2), "a.1.1.b": num(3), "a.2": null(), "a.3": null(), "a.b": null(), "a.9999": null(), "c.d.e": num(4), "c.d.e.f": null(), "c.f": truth(false), "c.0": null(), "x": null(), "0": null(), "n.0": null(), "c.d": table("e", num(4)),
	} {
		g, e := list.Groups([]api.Value{v}, route)
		expect(t, route, g, e, []list.Group{{Value: want, Items: []int{0}}}, api.OK)
	}
}
