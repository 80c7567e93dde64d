package list_test

import (
	"math/rand"
	"strings"
	"testing"

	"masthead/api"
	"masthead/conf"
	"masthead/list"
)

// with is a condition with something changed.
func with(c list.Cond, change func(c *list.Cond)) list.Cond {
	change(&c)
	return c
}

// P4.1: how many conditions, and how many levels.
func TestCheckCondSize(t *testing.T) {
	a := there("a")
	for name, c := range map[string]struct {
		c    list.Cond
		want api.Errno
	}{
		"one":                       {a, api.OK},
		"as many as can be":         {of(list.Or, conds(list.MaxCond-1, a)...), api.OK},
		"one more":                  {of(list.Or, conds(list.MaxCond, a)...), api.ErrLarge},
		"as many in two":            {of(list.Or, of(list.And, conds(98, a)...), of(list.And, conds(99, a)...)), api.OK},
		"one more in two":           {of(list.Or, of(list.And, conds(99, a)...), of(list.And, conds(99, a)...)), api.ErrLarge},
		"very many":                 {of(list.Or, conds(1_000_000, a)...), api.ErrLarge},
		"very deep":                 {nots(200_000), api.ErrLarge},
		"as deep as can be":         {nots(list.MaxLevels), api.OK},
		"one deeper":                {nots(list.MaxLevels + 1), api.ErrDeep},
		"as many levels as many":    {nots(list.MaxCond), api.ErrDeep},
		"one more level":            {nots(list.MaxCond + 1), api.ErrLarge},
		"deep after another one":    {of(list.And, a, nots(list.MaxLevels)), api.ErrDeep},
		"large before deep":         {of(list.And, nots(list.MaxLevels), of(list.Or, conds(list.MaxCond, a)...)), api.ErrLarge},
		"large before a form":       {of(14, conds(list.MaxCond, a)...), api.ErrLarge},
		"deep before a form":        {of(14, nots(list.MaxLevels)), api.ErrDeep},
		"Kids of one without count": {with(a, func(c *list.Cond) { c.Kids = conds(list.MaxCond, a) }), api.ErrLarge},
	} {
		if e := list.CheckCond(c.c); e != c.want {
			t.Errorf("%s: error %d, want %d", name, e, c.want)
		}
	}
}

// P4.1: the form of conditions.
func TestCheckCondForms(t *testing.T) {
	a, b := there("a"), one(list.Equal, "b", num(1))
	zero := api.Value{Items: []api.Value{}, Keys: []string{}}
	for name, c := range map[string]struct {
		c    list.Cond
		want api.Errno
	}{
		"no Op":                 {list.Cond{Route: "a"}, api.ErrForm},
		"an Op below all":       {list.Cond{Op: -1, Route: "a"}, api.ErrForm},
		"an Op above all":       {list.Cond{Op: 14, Route: "a"}, api.ErrForm},
		"And":                   {of(list.And, a, b), api.OK},
		"Or of three":           {of(list.Or, a, b, a), api.OK},
		"And without Kids":      {of(list.And), api.ErrForm},
		"And of one":            {of(list.And, a), api.ErrForm},
		"Or of one":             {of(list.Or, a), api.ErrForm},
		"Not":                   {of(list.Not, a), api.OK},
		"Not without Kids":      {of(list.Not), api.ErrForm},
		"Not of two":            {of(list.Not, a, b), api.ErrForm},
		"There with a Kid":      {with(a, func(c *list.Cond) { c.Kids = conds(1, a) }), api.ErrForm},
		"Equal with a Kid":      {with(b, func(c *list.Cond) { c.Kids = conds(1, a) }), api.ErrForm},
		"There with no Kids":    {with(a, func(c *list.Cond) { c.Kids = []list.Cond{} }), api.OK},
		"And in And":            {of(list.And, a, of(list.And, a, b)), api.ErrForm},
		"Or in Or":              {of(list.Or, of(list.Or, a, b), a), api.ErrForm},
		"And in Or in And":      {of(list.And, of(list.Or, of(list.And, a, b), a), b), api.OK},
		"Not in Not":            {of(list.Not, of(list.Not, a)), api.OK},
		"And in Not in And":     {of(list.And, of(list.Not, of(list.And, a, b)), b), api.OK},
		"And with a Route":      {with(of(list.And, a, b), func(c *list.Cond) { c.Route = "a" }), api.ErrForm},
		"Or with a Route":       {with(of(list.Or, a, b), func(c *list.Cond) { c.Route = "a" }), api.ErrForm},
		"Not with a Route":      {with(of(list.Not, a), func(c *list.Cond) { c.Route = "A" }), api.ErrForm},
		"And with a Value":      {with(of(list.And, a, b), func(c *list.Cond) { c.Value = num(0) }), api.ErrForm},
		"Or with a Value":       {with(of(list.Or, a, b), func(c *list.Cond) { c.Value = str("") }), api.ErrForm},
		"Not with a Value":      {with(of(list.Not, a), func(c *list.Cond) { c.Value = api.Value{Int: 1} }), api.ErrForm},
		"There with a Value":    {one(list.There, "a", num(0)), api.ErrForm},
		"There with any Value":  {one(list.There, "", other(99)), api.ErrForm},
		"There with large ones": {one(list.There, "a", listOf(many(conf.MaxValues, null())...)), api.ErrForm},
		"There with empty ones": {one(list.There, "a", zero), api.OK},
		"Not with empty ones":   {with(of(list.Not, a), func(c *list.Cond) { c.Value = zero }), api.OK},
		"a Kid after its outer": {of(list.Not, list.Cond{}), api.ErrForm},
		"an outer one first":    {with(of(list.And, list.Cond{Op: list.There, Route: "A"}, b), func(c *list.Cond) { c.Route = "a" }), api.ErrForm},
		"an earlier Kid first":  {of(list.And, of(list.Not, there("A")), list.Cond{}), api.ErrPath},
	} {
		if e := list.CheckCond(c.c); e != c.want {
			t.Errorf("%s: error %d, want %d", name, e, c.want)
		}
	}
}

// P4.1: routes of conditions.
func TestCheckCondRoutes(t *testing.T) {
	for op := list.There; op <= list.Begins; op++ {
		c := list.Cond{Op: op, Value: api.Value{}}
		switch op {
		case list.In:
			c.Value = listOf()
		case list.Begins:
			c.Value = str("")
		}
		for _, route := range []string{"", "and", "or", "not", "has", "in", "begins", "A", "a..b", "*", "-a", "10000", "=", "!=", routeOf(conf.MaxRoute + 1)} {
			c.Route = route
			if e := list.CheckCond(c); e != api.ErrPath {
				t.Errorf("operation %d, route %s: error %d", op, short(route), e)
			}
		}
		for _, route := range []string{"a", "0", "a.0.b", "and.or", "in.0", "a.not", "nil", "yes", "ands", routeOf(conf.MaxRoute)} {
			c.Route = route
			if e := list.CheckCond(c); e != api.OK {
				t.Errorf("operation %d, route %s: error %d", op, short(route), e)
			}
		}
	}
	for _, op := range []int{list.Equal, list.In, list.Begins} {
		if e := list.CheckCond(one(op, "A", other(9))); e != api.ErrPath {
			t.Errorf("a route and a value, operation %d: error %d", op, e)
		}
	}
}

// P4.1: values of conditions.
func TestCheckCondValues(t *testing.T) {
	const scalar, text, flat, nest = 0, 1, 2, 3
	for op := list.Equal; op <= list.Begins; op++ {
		for _, x := range []struct {
			v    api.Value
			sort int
		}{
			{null(), scalar}, {truth(true), scalar}, {num(1), scalar}, {day(1), scalar}, {str("a"), text}, {str(""), text},
			{listOf(), flat}, {listOf(null(), truth(true), num(1), day(1), str("a")), flat},
			{table(), nest}, {table("a", num(1)), nest}, {listOf(num(1), listOf()), nest}, {listOf(table(), num(1)), nest},
		} {
			want := api.OK
			switch op {
			case list.In:
				if x.sort != flat {
					want = api.ErrKind
				}
			case list.Begins:
				if x.sort != text {
					want = api.ErrKind
				}
			default:
				if x.sort >= flat {
					want = api.ErrKind
				}
			}
			if e := list.CheckCond(one(op, "a", x.v)); e != want {
				t.Errorf("operation %d, %s: error %d, want %d", op, show(x.v), e, want)
			}
		}
		for _, v := range []api.Value{safe("a"), day(-1), {Kind: api.Bool, Int: 1}, str("\x00"), nested(conf.MaxDepth, null()), listOf(many(conf.MaxValues, null())...), table("A", null())} {
			if e, want := list.CheckCond(one(op, "a", v)), conf.Check(v); e != want {
				t.Errorf("operation %d, %s: error %d, want %d", op, short(show(v)), e, want)
			}
		}
	}
	if e := list.CheckCond(one(list.In, "a", listOf(many(conf.MaxValues-1, null())...))); e != api.OK {
		t.Errorf("as many values as can be: error %d", e)
	}
	if e := list.CheckCond(one(list.In, "a", listOf(fact("a")))); e != api.ErrKind {
		t.Errorf("a fact: error %d", e)
	}
}

// P4.3: how conditions are written.
func TestCondString(t *testing.T) {
	a, b, c := there("a"), there("b.0"), there("c")
	for want, x := range map[string]list.Cond{
		"a":                                a,
		"a and b.0":                        of(list.And, a, b),
		"a or b.0 or c":                    of(list.Or, a, b, c),
		"a or b.0 and c":                   of(list.Or, a, of(list.And, b, c)),
		"(a or b.0) and c":                 of(list.And, of(list.Or, a, b), c),
		"c and (a or b.0 and c)":           of(list.And, c, of(list.Or, a, of(list.And, b, c))),
		"not a":                            of(list.Not, a),
		"not not a":                        of(list.Not, of(list.Not, a)),
		"not (a and c)":                    of(list.Not, of(list.And, a, c)),
		"not (a or c)":                     of(list.Not, of(list.Or, a, c)),
		"not a and not c or not b.0":       of(list.Or, of(list.And, of(list.Not, a), of(list.Not, c)), of(list.Not, b)),
		"a = nil":                          one(list.Equal, "a", null()),
		"a != yes":                         one(list.Unlike, "a", truth(true)),
		"a < -1":                           one(list.Below, "a", num(-1)),
		"a <= no":                          one(list.AtMost, "a", truth(false)),
		"a > 1970-01-02":                   one(list.Above, "a", day(1)),
		"a >= -9223372036854775808":        one(list.AtLeast, "a", num(-1<<63)),
		`a has "x\n\t\"\\ y"`:              one(list.Has, "a", str("x\n\t\"\\ y")),
		"a in []":                          one(list.In, "a", listOf()),
		`a in [1 "" nil 2199-12-31 no]`:    one(list.In, "a", listOf(num(1), str(""), null(), day(api.MaxDay), truth(false))),
		`a begins ""`:                      one(list.Begins, "a", str("")),
		`not a has "and" and (c or a = 1)`: of(list.And, of(list.Not, one(list.Has, "a", str("and"))), of(list.Or, c, one(list.Equal, "a", num(1)))),
	} {
		s, e := list.CondString(x)
		expect(t, want, s, e, want, api.OK)
	}
}

// P4.3: what cannot be written.
func TestCondStringErrors(t *testing.T) {
	for name, c := range map[string]struct {
		c    list.Cond
		want api.Errno
	}{
		"a form":     {of(list.And, there("a")), api.ErrForm},
		"a route":    {there("in"), api.ErrPath},
		"one byte":   {one(list.Equal, "a", str(wide(list.MaxCondText-len(`a = ""`)+1))), api.ErrLarge},
		"many bytes": {of(list.Or, conds(100, one(list.Equal, "a", str(wide(conf.MaxString))))...), api.ErrLarge},
		"escapes":    {one(list.Equal, "a", str(strings.Repeat("\n", 2501))), api.ErrLarge},
		"too deep":   {nots(list.MaxLevels + 1), api.ErrDeep},
	} {
		s, e := list.CondString(c.c)
		expect(t, name, s, e, "", c.want)
	}
	s, e := list.CondString(one(list.Equal, "a", str(wide(list.MaxCondText-len(`a = ""`)))))
	if e != api.OK || len(s) != list.MaxCondText {
		t.Errorf("as many bytes as can be: %d, error %d", len(s), e)
	}
	full := one(list.In, "a", listOf(many(conf.MaxValues-1, num(1))...))
	s, e = list.CondString(full)
	expect(t, "as many values as can be", s, e, "a in ["+strings.TrimSuffix(strings.Repeat("1 ", conf.MaxValues-1), " ")+"]", api.OK)
	c, at, e := list.ReadCond(s)
	expect(t, "as many values as can be, read", c, e, full, api.OK)
	if at != 0 {
		t.Errorf("position %d", at)
	}
}

// P4.3: ReadCond of CondString of a condition returns it.
func TestCondStringIsRead(t *testing.T) {
	r := rand.New(rand.NewSource(1))
	for range 20_000 {
		c := randomCond(r, 5, 0)
		s, e := list.CondString(c)
		if e != api.OK {
			t.Fatalf("%s: error %d", show(c), e)
		}
		got, at, e := list.ReadCond(s)
		expect(t, s, got, e, c, api.OK)
		if at != 0 {
			t.Fatalf("%s: position %d", s, at)
		}
	}
	deep := nots(list.MaxLevels)
	s, _ := list.CondString(deep)
	got, _, e := list.ReadCond(s)
	expect(t, s, got, e, deep, api.OK)
}
