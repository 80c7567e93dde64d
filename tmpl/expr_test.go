package tmpl_test

import (
	"math/rand"
	"strings"
	"testing"

	"masthead/api"
	"masthead/tmpl"
)

// P5.3: how expressions are read, from the loosest operator to the tightest.
func TestParseExpr(t *testing.T) {
	for s, want := range map[string]string{
		".":                        ".",
		" \t\n. \n":                ".",
		".a":                       "field a(.)",
		".a.b":                     "field b(field a(.))",
		"..a":                      "field a(.)",
		".a_1.b2":                  "field b2(field a_1(.))",
		"." + wide(20):             "field " + wide(20) + "(.)",
		"$x":                       "$x",
		"$x.a[1].b":                "field b(at(field a($x) 1))",
		".[.]":                     "at(. .)",
		".a[ 1 or 2 ][\"k\"]":      `at(at(field a(.) or(1 2)) "k")`,
		"nil":                      "nil",
		"true":                     "true",
		"false":                    "false",
		"0":                        "0",
		"-1":                       "-1",
		"-999999999999999":         "-999999999999999",
		"999999999999999":          "999999999999999",
		"1.a":                      "field a(1)",
		"nil.a":                    "field a(nil)",
		`"".a`:                     `field a("")`,
		`""`:                       `""`,
		`"a\"\\\nb"`:               `"a\"\\\nb"`,
		"\"\t\x80'`{{\"":           `"\t\x80'` + "`{{\"",
		"(.)":                      ".",
		"( ( .a ) )":               "field a(.)",
		"(.a).b":                   "field b(field a(.))",
		"(1 or 2).b":               "field b(or(1 2))",
		"len(.)":                   "func len(.)",
		"len( . )":                 "func len(.)",
		"len(.).a":                 "field a(func len(.))",
		"replace(1,2 , 3)":         "func replace(1 2 3)",
		"add(1 or 2, not 3)":       "func add(or(1 2) not(3))",
		"not .":                    "not(.)",
		"not not .":                "not(not(.))",
		"not(.)":                   "not(.)",
		"not.a":                    "not(field a(.))",
		"not\".\"":                 `not(".")`,
		"1 == 2":                   "==(1 2)",
		"1==2":                     "==(1 2)",
		"1!=2":                     "!=(1 2)",
		"1<2":                      "<(1 2)",
		"1<=2":                     "<=(1 2)",
		"1>2":                      ">(1 2)",
		"1>=-2":                    ">=(1 -2)",
		"not 1 == 2":               "not(==(1 2))",
		"(not 1) == 2":             "==(not(1) 2)",
		"1 and 2 and 3":            "and(and(1 2) 3)",
		"1 and (2 and 3)":          "and(1 and(2 3))",
		"1 or 2 or 3":              "or(or(1 2) 3)",
		"1 or 2 and 3 or 4":        "or(or(1 and(2 3)) 4)",
		"(1 or 2) and 3":           "and(or(1 2) 3)",
		"not 1 and not 2 or not 3": "or(and(not(1) not(2)) not(3))",
		"1 < 2 and 3 > 4":          "and(<(1 2) >(3 4))",
		"1and 2":                   "and(1 2)",
		"\"a\"or\"b\"":             `or("a" "b")`,
		".a and.b":                 "and(field a(.) field b(.))",
		"$x or$y":                  "or($x $y)",
		"(1)or(2)":                 "or(1 2)",
		".or_":                     "field or_(.)",
		".a.if_ or .x":             "or(field if_(field a(.)) field x(.))",
		".len":                     "field len(.)",
		".\nand\n.":                "and(. .)",
		strings.Repeat("(", 5000) + "." + strings.Repeat(")", 5000): ".",
	} {
		x, e := tmpl.ParseExpr(s)
		expect(t, s, dumpExpr(x), e, want, api.OK)
	}
}

// P5.3: what is wrong with an expression; the first one of the errors in their order.
func TestParseExprErrors(t *testing.T) {
	for _, c := range []struct {
		s string
		e api.Errno
	}{
		{wide(tmpl.MaxText + 1), api.ErrLarge},
		{"\x01" + wide(tmpl.MaxText), api.ErrLarge},
		{"." + strings.Repeat(" ", tmpl.MaxText-1), api.OK},
		{"x\x00", api.ErrByte},
		{"\"\x1f\"", api.ErrByte},
		{".\r", api.ErrByte},
		{"", api.ErrSyntax},
		{" ", api.ErrSyntax},
		{"x", api.ErrSyntax},
		{"é", api.ErrSyntax},
		{"A", api.ErrSyntax},
		{". .", api.ErrSyntax},
		{".a .b", api.ErrSyntax},
		{". a", api.ErrSyntax},
		{".A", api.ErrSyntax},
		{".1", api.ErrSyntax},
		{"._a", api.ErrSyntax},
		{".a.", api.ErrSyntax},
		{".a. b", api.ErrSyntax},
		{".a.if", api.ErrSyntax},
		{".nil", api.ErrSyntax},
		{".a-b", api.ErrSyntax},
		{"." + wide(21), api.ErrSyntax},
		{"$", api.ErrSyntax},
		{"$ x", api.ErrSyntax},
		{"$1", api.ErrSyntax},
		{"$in", api.ErrSyntax},
		{"$X", api.ErrSyntax},
		{"$" + wide(21), api.ErrSyntax},
		{".a [1]", api.ErrSyntax},
		{".[]", api.ErrSyntax},
		{".[1", api.ErrSyntax},
		{".[1 2]", api.ErrSyntax},
		{".]", api.ErrSyntax},
		{"[1]", api.ErrSyntax},
		{"01", api.ErrSyntax},
		{"-0", api.ErrSyntax},
		{"-01", api.ErrSyntax},
		{"00", api.ErrSyntax},
		{"-", api.ErrSyntax},
		{"- 1", api.ErrSyntax},
		{"--1", api.ErrSyntax},
		{"+1", api.ErrSyntax},
		{"1 2", api.ErrSyntax},
		{"1-1", api.ErrSyntax},
		{"1_000", api.ErrSyntax},
		{"1.5", api.ErrSyntax},
		{"1000000000000000", api.ErrSyntax},
		{"-1000000000000000", api.ErrSyntax},
		{"99999999999999999999999999", api.ErrSyntax},
		{`"`, api.ErrSyntax},
		{`"a`, api.ErrSyntax},
		{`"a\`, api.ErrSyntax},
		{`"a\"`, api.ErrSyntax},
		{`"a\t"`, api.ErrSyntax},
		{`"a\'"`, api.ErrSyntax},
		{"\"a\nb\"", api.ErrSyntax},
		{"\"a\\\nb\"", api.ErrSyntax},
		{`'a'`, api.ErrSyntax},
		{`"a" "b"`, api.ErrSyntax},
		{"()", api.ErrSyntax},
		{"(.", api.ErrSyntax},
		{".)", api.ErrSyntax},
		{"(1, 2)", api.ErrSyntax},
		{"len", api.ErrSyntax},
		{"len (.)", api.ErrSyntax},
		{"len()", api.ErrSyntax},
		{"len(.", api.ErrSyntax},
		{"len(.,)", api.ErrSyntax},
		{"len(,.)", api.ErrSyntax},
		{"len(. .)", api.ErrSyntax},
		{"Len(.)", api.ErrSyntax},
		{"if(.)", api.ErrSyntax},
		{"true(.)", api.ErrSyntax},
		{"truer", api.ErrSyntax},
		{"nil1", api.ErrSyntax},
		{"not", api.ErrSyntax},
		{"nota", api.ErrSyntax},
		{"not1", api.ErrSyntax},
		{"not not", api.ErrSyntax},
		{"1 not 2", api.ErrSyntax},
		{"and 1", api.ErrSyntax},
		{"1 and", api.ErrSyntax},
		{"1 or", api.ErrSyntax},
		{"1 or or 2", api.ErrSyntax},
		{"1 and2", api.ErrSyntax},
		{"1 AND 2", api.ErrSyntax},
		{"1 < 2 < 3", api.ErrSyntax},
		{"1 == 2 == 3", api.ErrSyntax},
		{"1 == not 2", api.ErrSyntax},
		{"1 = 2", api.ErrSyntax},
		{"1 < = 2", api.ErrSyntax},
		{"1 ! = 2", api.ErrSyntax},
		{"1 =< 2", api.ErrSyntax},
		{"1 <> 2", api.ErrSyntax},
		{"< 2", api.ErrSyntax},
		{"1 <", api.ErrSyntax},
		{"1 + 2", api.ErrSyntax},
		{"!.", api.ErrSyntax},
		{"." + strings.Repeat(".a", 11), api.OK},
		{strings.Repeat(".a", 11), api.OK},
		{strings.Repeat(".a", 12), api.ErrDeep},
		{strings.Repeat("not ", 11) + "nil", api.OK},
		{strings.Repeat("not ", 12) + "nil", api.ErrDeep},
		{"1" + strings.Repeat(" or 1", 11), api.OK},
		{"1" + strings.Repeat(" or 1", 12), api.ErrDeep},
		{"1" + strings.Repeat(" and $x", 12), api.ErrDeep},
		{"1 < " + strings.Repeat("len(", 10) + "1" + strings.Repeat(")", 10), api.OK},
		{"1 < " + strings.Repeat("len(", 11) + "1" + strings.Repeat(")", 11), api.ErrDeep},
		{".[" + strings.Repeat("not ", 10) + ".]", api.OK},
		{".[" + strings.Repeat("not ", 11) + ".]", api.ErrDeep},
		{strings.Repeat("not ", 12) + "foo(.)", api.ErrDeep},
		{"foo(" + strings.Repeat("not ", 12) + ".)", api.ErrDeep},
		{"foo(" + strings.Repeat("not ", 12) + ".) x", api.ErrSyntax},
		{strings.Repeat("not ", 4000) + ".", api.ErrDeep},
		{"1" + strings.Repeat(" or 1", 3000), api.ErrDeep},
		{strings.Repeat("len(", 3900) + "." + strings.Repeat(")", 3900), api.ErrDeep},
		{strings.Repeat("(", 5000) + "." + strings.Repeat(")", 4999), api.ErrSyntax},
		{"foo(.)", api.ErrName},
		{"foo(.) or x", api.ErrSyntax},
		{"lens(.)", api.ErrName},
		{"len(., .)", api.ErrName},
		{"add(1)", api.ErrName},
		{"replace(1, 2)", api.ErrName},
		{"len(foo(.))", api.ErrName},
	} {
		x, e := tmpl.ParseExpr(c.s)
		if e != c.e || e != api.OK && dumpExpr(x) != "?" {
			t.Errorf("%s: %s, error %d; want %d", short(c.s), dumpExpr(x), e, c.e)
		}
	}
}

// P5.2: the functions, and how many arguments each one has.
func TestFunctionNames(t *testing.T) {
	known := map[string]int{"len": 1, "upper": 1, "lower": 1, "trim": 1, "slug": 1, "plain": 1, "default": 2, "join": 2, "split": 2, "replace": 3, "first": 2, "last": 2, "reverse": 1, "sort": 2, "where": 3, "has": 2, "keys": 1, "add": 2, "sub": 2, "mul": 2, "div": 2, "mod": 2, "string": 1, "year": 1, "month": 1, "day": 1, "fact": 1, "list": 2}
	for name, args := range known {
		for n := range 5 {
			want := api.OK
			switch {
			case n == 0:
				want = api.ErrForm
			case n != args:
				want = api.ErrName
			}
			x := of(tmpl.Func, name, make([]tmpl.Expr, n)...)
			var values []api.Value
			for i := range x.Args {
				x.Args[i] = dot()
				values = append(values, other(99))
			}
			s, e := tmpl.PrintExpr(x)
			if e != want {
				t.Errorf("%s with %d arguments: error %d printing it", name, n, e)
			}
			if _, e := tmpl.ParseExpr(s); e != want && n > 0 && want == api.OK {
				t.Errorf("%s with %d arguments: error %d reading it", name, n, e)
			}
			if _, e := tmpl.Apply(name, values); (e == api.ErrName) != (n != args) {
				t.Errorf("%s with %d arguments: error %d applying it", name, n, e)
			}
		}
	}
}

// P5.1: the words that are no names.
func TestReserved(t *testing.T) {
	for _, word := range strings.Fields("if each with let call else end in and or not true false nil") {
		for _, s := range []string{"." + word, ".a." + word, "$" + word, word + "(1)1"} {
			x, e := tmpl.ParseExpr(s)
			expect(t, s, dumpExpr(x), e, "?", api.ErrSyntax)
		}
		for _, x := range []tmpl.Expr{of(tmpl.Var, word), of(tmpl.Field, word, dot()), of(tmpl.Func, word, dot())} {
			s, e := tmpl.PrintExpr(x)
			expect(t, word, s, e, "", api.ErrForm)
		}
		for _, text := range []string{"{{ let " + word + " = 1 }}", "{{ each " + word + " in . }}{{ end }}"} {
			l, _, e := tmpl.Parse(text)
			expect(t, text, dump(l), e, "", api.ErrSyntax)
		}
		s, e := tmpl.PrintExpr(expr(t, "."+word+"s"))
		expect(t, word+"s", s, e, "."+word+"s", api.OK)
	}
}

// P5.4: brackets are written where they must be, and blanks around what stands between.
func TestPrintExpr(t *testing.T) {
	for s, want := range map[string]string{
		"nil":                    "nil",
		"( true)":                "true",
		"-5":                     "-5",
		`"a\"\\\n` + "\t\x80\"":  `"a\"\\\n` + "\t\x80\"",
		"(.).a":                  ".a",
		"($x).a":                 "$x.a",
		"(.a).b":                 ".a.b",
		"(1).b":                  "1.b",
		"(not .).a":              "(not .).a",
		"(. < 1).a":              "(. < 1).a",
		"(. and 1).a":            "(. and 1).a",
		"(. or 1).a":             "(. or 1).a",
		"(. or 1)[. or 1]":       "(. or 1)[. or 1]",
		".[(1)]":                 ".[1]",
		".[ .[1] ]":              ".[.[1]]",
		"len((.))":               "len(.)",
		"add( 1,(2 or 3) )":      "add(1, 2 or 3)",
		"add(1,2).x[3]":          "add(1, 2).x[3]",
		"not (.)":                "not .",
		"not (not .)":            "not not .",
		"not (. == 1)":           "not . == 1",
		"(not .) == 1":           "(not .) == 1",
		"1 == (not .)":           "1 == (not .)",
		"not (. and 1)":          "not (. and 1)",
		"not (. or 1)":           "not (. or 1)",
		"(not .) and (not .)":    "not . and not .",
		"(1<2) and (3<4)":        "1 < 2 and 3 < 4",
		"(1 and 2) and 3":        "1 and 2 and 3",
		"1 and (2 and 3)":        "1 and (2 and 3)",
		"(1 or 2) and (3 or 4)":  "(1 or 2) and (3 or 4)",
		"(1 or 2) or 3":          "1 or 2 or 3",
		"1 or (2 or 3)":          "1 or (2 or 3)",
		"(1 and 2) or (3 and 4)": "1 and 2 or 3 and 4",
		"(not 1) or (not 2)":     "not 1 or not 2",
		"(1 == 2) == (3 != 4)":   "(1 == 2) == (3 != 4)",
		"(1 and 2) < (1 or 2)":   "(1 and 2) < (1 or 2)",
		".a<=$b":                 ".a <= $b",
		".a>=\"x\"":              ".a >= \"x\"",
		"1>2":                    "1 > 2",
	} {
		got, e := tmpl.PrintExpr(expr(t, s))
		expect(t, s, got, e, want, api.OK)
	}
}

// P5.4: which expressions cannot be printed, and what counts first.
func TestPrintExprErrors(t *testing.T) {
	unknown := of(tmpl.Func, "foo", dot())
	for _, c := range []struct {
		name string
		x    tmpl.Expr
		e    api.Errno
	}{
		{"no Kind", tmpl.Expr{}, api.ErrKind},
		{"a Kind below", tmpl.Expr{Kind: -1}, api.ErrKind},
		{"a Kind above", tmpl.Expr{Kind: 11, Name: "x"}, api.ErrKind},
		{"a Kind of an argument", of(tmpl.Not, "", tmpl.Expr{}), api.ErrKind},
		{"a Const with a Name", tmpl.Expr{Kind: tmpl.Const, Name: "a"}, api.ErrForm},
		{"a Const with an argument", of(tmpl.Const, "", dot()), api.ErrForm},
		{"a Dot with a Value", tmpl.Expr{Kind: tmpl.Dot, Value: truth(false)}, api.ErrForm},
		{"a Dot with a Name", of(tmpl.Dot, "a"), api.ErrForm},
		{"a Dot with an argument", of(tmpl.Dot, "", dot()), api.ErrForm},
		{"a Var without a Name", of(tmpl.Var, ""), api.ErrForm},
		{"a Var with a Name that is none", of(tmpl.Var, "true"), api.ErrForm},
		{"a Var with an argument", of(tmpl.Var, "a", dot()), api.ErrForm},
		{"a Var with a Value", tmpl.Expr{Kind: tmpl.Var, Name: "a", Value: num(0)}, api.ErrForm},
		{"a Var", of(tmpl.Var, "a"), api.OK},
		{"a Field without a Name", of(tmpl.Field, "", dot()), api.ErrForm},
		{"a Field with a Name that is none", of(tmpl.Field, "a-b", dot()), api.ErrForm},
		{"a Field with a long Name", of(tmpl.Field, wide(21), dot()), api.ErrForm},
		{"a Field without an argument", of(tmpl.Field, "a"), api.ErrForm},
		{"a Field with two", of(tmpl.Field, "a", dot(), dot()), api.ErrForm},
		{"an At with a Name", of(tmpl.At, "a", dot(), dot()), api.ErrForm},
		{"an At with one", of(tmpl.At, "", dot()), api.ErrForm},
		{"an At with three", of(tmpl.At, "", dot(), dot(), dot()), api.ErrForm},
		{"a Func without a Name", of(tmpl.Func, "", dot()), api.ErrForm},
		{"a Func with a Name that is none", of(tmpl.Func, "Len", dot()), api.ErrForm},
		{"a Func with a Value", tmpl.Expr{Kind: tmpl.Func, Name: "len", Value: str(""), Args: []tmpl.Expr{dot()}}, api.ErrForm},
		{"an unknown Func", unknown, api.ErrName},
		{"a Func without arguments", of(tmpl.Func, "len"), api.ErrForm},
		{"an unknown Func without arguments", of(tmpl.Func, "foo"), api.ErrForm},
		{"a Func without arguments in one with another number of them", of(tmpl.Func, "add", of(tmpl.Func, "len")), api.ErrName},
		{"a Func without arguments before one of no Kind", of(tmpl.And, "", of(tmpl.Func, "len"), tmpl.Expr{}), api.ErrForm},
		{"a Func with two", of(tmpl.Func, "len", dot(), dot()), api.ErrName},
		{"a Not with a Name", of(tmpl.Not, "a", dot()), api.ErrForm},
		{"a Not without an argument", of(tmpl.Not, ""), api.ErrForm},
		{"a Not with two", of(tmpl.Not, "", dot(), dot()), api.ErrForm},
		{"an And with a Name", of(tmpl.And, "a", dot(), dot()), api.ErrForm},
		{"an And with one", of(tmpl.And, "", dot()), api.ErrForm},
		{"an Or with three", of(tmpl.Or, "", dot(), dot(), dot()), api.ErrForm},
		{"an Or with a Value", tmpl.Expr{Kind: tmpl.Or, Value: num(1), Args: []tmpl.Expr{dot(), dot()}}, api.ErrForm},
		{"a Cmp without a Name", of(tmpl.Cmp, "", dot(), dot()), api.ErrForm},
		{"a Cmp with a Name that is none", of(tmpl.Cmp, "=", dot(), dot()), api.ErrForm},
		{"a Cmp with one", of(tmpl.Cmp, "<", dot()), api.ErrForm},
		{"the greatest Int", constant(num(999_999_999_999_999)), api.OK},
		{"the least Int", constant(num(-999_999_999_999_999)), api.OK},
		{"an Int beyond", constant(num(1_000_000_000_000_000)), api.ErrForm},
		{"an Int below", constant(num(-1_000_000_000_000_000)), api.ErrForm},
		{"a Day", constant(day(1)), api.ErrForm},
		{"a List", constant(listOf()), api.ErrForm},
		{"a Table", constant(table()), api.ErrForm},
		{"a Safe", constant(safe("a")), api.ErrForm},
		{"a Fact", constant(fact("a")), api.ErrForm},
		{"a value of no Kind", constant(other(9)), api.ErrForm},
		{"a Nil with a Text", constant(api.Value{Text: "a"}), api.ErrForm},
		{"a Nil with an Item", constant(api.Value{Items: many(1, null())}), api.ErrForm},
		{"a Nil with empty lists", constant(api.Value{Items: []api.Value{}, Keys: []string{}}), api.OK},
		{"a Bool with an Int", constant(api.Value{Kind: api.Bool, Int: 1}), api.ErrForm},
		{"an Int with a Bool", constant(api.Value{Kind: api.Int, Bool: true}), api.ErrForm},
		{"an Int with a Text", constant(api.Value{Kind: api.Int, Text: "a"}), api.ErrForm},
		{"a String with a Key", constant(api.Value{Kind: api.String, Keys: []string{"a"}}), api.ErrForm},
		{"a byte", constant(str("a\x01")), api.ErrByte},
		{"a zero byte", constant(str("\x00")), api.ErrByte},
		{"allowed bytes", constant(str("\t\n\x7f\xff")), api.OK},
		{"a form before a byte", tmpl.Expr{Kind: tmpl.Const, Name: "a", Value: str("\x01")}, api.ErrForm},
		{"a Kind before a later form", of(tmpl.And, "", tmpl.Expr{}, of(tmpl.Not, "")), api.ErrKind},
		{"a form before a later Kind", of(tmpl.And, "", of(tmpl.Not, ""), tmpl.Expr{}), api.ErrForm},
		{"a byte before a later Kind", of(tmpl.And, "", constant(str("\x01")), tmpl.Expr{}), api.ErrByte},
		{"a node before its arguments", of(tmpl.Func, "foo", tmpl.Expr{}), api.ErrName},
		{"an argument's argument before the next one", of(tmpl.And, "", of(tmpl.Not, "", unknown), tmpl.Expr{}), api.ErrName},
		{"just not too deep", nots(12), api.OK},
		{"too deep", nots(13), api.ErrDeep},
		{"too deep in the second argument", of(tmpl.Or, "", dot(), nots(12)), api.ErrDeep},
		{"a Kind before too deep", of(tmpl.Or, "", nots(13), tmpl.Expr{}), api.ErrKind},
		{"a name before too deep", of(tmpl.Or, "", nots(13), unknown), api.ErrName},
		{"far too deep", nots(100_000), api.ErrDeep},
	} {
		s, e := tmpl.PrintExpr(c.x)
		if e != c.e || e != api.OK && s != "" {
			t.Errorf("%s: %q, error %d; want %d", c.name, s, e, c.e)
		}
		if _, reads, e := tmpl.Eval(c.x, null(), nil); c.e != api.OK && (e != c.e || reads != nil) {
			t.Errorf("%s: error %d evaluating it; want %d", c.name, e, c.e)
		}
	}
}

// randomExpr is an expression, so many deep at most.
func randomExpr(r *rand.Rand, deep int) tmpl.Expr {
	names := []string{"a", "b_1", "len", "if_", wide(20)}
	name := names[r.Intn(len(names))]
	kind := 1 + r.Intn(10)
	if deep <= 1 {
		kind = 1 + r.Intn(3)
	}
	args := func(n int) []tmpl.Expr {
		var l []tmpl.Expr
		for range n {
			l = append(l, randomExpr(r, deep-1))
		}
		return l
	}
	switch kind {
	case tmpl.Const:
		values := []api.Value{null(), truth(true), truth(false), num(0), num(-7), num(999_999_999_999_999), str(""), str("a\"\\\n\t}}{{"), str("\xff#")}
		return constant(values[r.Intn(len(values))])
	case tmpl.Dot:
		return dot()
	case tmpl.Var:
		return of(kind, name)
	case tmpl.Field:
		return of(kind, name, args(1)...)
	case tmpl.Func:
		functions := []string{"", "len", "add", "replace"}
		n := 1 + r.Intn(3)
		return of(kind, functions[n], args(n)...)
	case tmpl.Not:
		return of(kind, "", args(1)...)
	case tmpl.Cmp:
		return of(kind, []string{"==", "!=", "<", "<=", ">", ">="}[r.Intn(6)], args(2)...)
	}
	return of(kind, "", args(2)...)
}

// P5.4: what is printed is read as the same expression, and no brackets can be left out.
func TestPrintParseExpr(t *testing.T) {
	r := rand.New(rand.NewSource(2))
	for range 5000 {
		x := randomExpr(r, 5)
		s, e := tmpl.PrintExpr(x)
		again, e2 := tmpl.ParseExpr(s)
		if e != api.OK || e2 == api.ErrLarge {
			continue
		}
		if e2 != api.OK || show(again) != show(x) {
			t.Fatalf("%q, error %d\n%s\n%s, error %d", s, e, dumpExpr(x), dumpExpr(again), e2)
		}
		for i := range s {
			if s[i] == '(' && (i == 0 || s[i-1] < 'a' || s[i-1] > 'z') {
				if less, e := tmpl.ParseExpr(withoutBrackets(s, i)); e == api.OK && show(less) == show(x) {
					t.Fatalf("%q has brackets at %d that it does not need", s, i)
				}
			}
		}
	}
}

// withoutBrackets leaves a bracket and the one that closes it out.
func withoutBrackets(s string, at int) string {
	open := 0
	for i := at; i < len(s); i++ {
		switch s[i] {
		case '"':
			for i++; s[i] != '"'; i++ {
				if s[i] == '\\' {
					i++
				}
			}
		case '(':
			open++
		case ')':
			open--
			if open == 0 {
				return s[:at] + s[at+1:i] + s[i+1:]
			}
		}
	}
	return s
}
