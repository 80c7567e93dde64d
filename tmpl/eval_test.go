package tmpl_test

import (
	"fmt"
	"strings"
	"testing"

	"masthead/api"
	"masthead/tmpl"
)

// someFacts are facts of which some stand for others.
func someFacts() []api.Named {
	l := []api.Named{
		{Name: "n", Value: num(5)},
		{Name: "t", Value: table("a", str("A"), "f", fact("n"), "l", listOf(fact("n"), num(2)))},
		{Name: "n", Value: num(6)},
		{Name: "one", Value: fact("n")},
		{Name: "two", Value: fact("one")},
		{Name: "ring", Value: fact("ring")},
		{Name: "away", Value: fact("nowhere")},
		{Name: "5", Value: str("five")},
		{Name: "", Value: str("empty")},
		{Name: "no", Value: truth(false)},
		{Name: "s", Value: safe("<b>")},
	}
	for i := range 13 { // f1 to f12 are looked up within 12, f0 is not
		l = append(l, api.Named{Name: fmt.Sprint("f", i), Value: fact(fmt.Sprint("f", i+1))})
	}
	return append(l, api.Named{Name: "f13", Value: num(13)})
}

// P5.5: the values of expressions, and what is looked up for them.
func TestEval(t *testing.T) {
	dot := table("a", num(1), "b", table("c", str("C")), "d", fact("n"), "k", str("b"), "l", listOf(num(7), fact("t"), null()), "s", safe("k"), "z", num(0))
	for _, c := range []struct {
		expr  string
		want  api.Value
		reads string
		e     api.Errno
	}{
		{"nil", null(), "", api.OK},
		{"-5", num(-5), "", api.OK},
		{`"a\n"`, str("a\n"), "", api.OK},
		{"true", truth(true), "", api.OK},
		{".", dot, "", api.OK},
		{"$x", null(), "", api.ErrName},
		{".a", num(1), "", api.OK},
		{".b.c", str("C"), "", api.OK},
		{".x", null(), "", api.OK},
		{".x.y", null(), "", api.OK},
		{".a.x", null(), "", api.OK},
		{".l.x", null(), "", api.OK},
		{".d", fact("n"), "", api.OK},
		{".d.x", null(), "n", api.OK},
		{`fact("t")`, fact("t"), "", api.OK},
		{`fact("t").a`, str("A"), "t", api.OK},
		{`fact("t").f`, fact("n"), "t", api.OK},
		{`fact("t").f.x`, null(), "t n", api.OK},
		{`fact("none").a`, null(), "none", api.OK},
		{`fact("two") == 5`, truth(true), "two one n", api.OK},
		{`fact(.d)`, fact("5"), "n", api.OK},
		{`fact(fact("two"))`, fact("5"), "two one n", api.OK},
		{`fact(nil) == "empty"`, truth(true), " ", api.OK},
		{`fact(fact(.d))`, fact("five"), "n 5", api.OK},
		{`fact(true)`, fact("true"), "", api.OK},
		{`fact(.b)`, null(), "", api.ErrKind},
		{`fact("away") == nil`, truth(true), "away nowhere", api.OK},
		{`fact("f1") == nil`, null(), "", api.ErrDeep},
		{`fact("f2") == 13`, truth(true), "f2 f3 f4 f5 f6 f7 f8 f9 f10 f11 f12 f13", api.OK},
		{`not fact("ring")`, null(), "", api.ErrDeep},
		{".l[0]", num(7), "", api.OK},
		{".l[1]", fact("t"), "", api.OK},
		{".l[1].a", str("A"), "t", api.OK},
		{".l[3]", null(), "", api.OK},
		{".l[-1]", null(), "", api.OK},
		{".l[.d]", null(), "n", api.OK},
		{`fact("t").l[0]`, fact("n"), "t", api.OK},
		{`fact("t")["l"]`, listOf(fact("n"), num(2)), "t", api.OK},
		{`.["b"]`, table("c", str("C")), "", api.OK},
		{`.[.k].c`, str("C"), "", api.OK},
		{`.["x"]`, null(), "", api.OK},
		{`.[.s]`, null(), "", api.ErrKind},
		{`.l["0"]`, null(), "", api.ErrKind},
		{`.b[0]`, null(), "", api.ErrKind},
		{`.a[0]`, null(), "", api.ErrKind},
		{`.k[0]`, null(), "", api.ErrKind},
		{`nil[nil]`, null(), "", api.ErrKind},
		{`.x["y"]`, null(), "", api.ErrKind},
		{`.a[$x]`, null(), "", api.ErrName},
		{"len(.l)", num(3), "", api.OK},
		{"add(.d, fact(\"two\"))", num(10), "n two one", api.OK},
		{"add(fact(\"two\"), .d)", num(10), "two one n", api.OK},
		{`list(.d, fact("t").l)`, listOf(num(5), listOf(fact("n"), num(2))), "n t", api.OK},
		{`list(fact("x"), fact("y"))`, listOf(null(), null()), "x y", api.OK},
		{"len(.a)", null(), "", api.ErrKind},
		{"add(1, fact(\"t\"))", null(), "", api.ErrKind},
		{"div(1, 0)", null(), "", api.ErrRange},
		{"add(len(.a), div(1, 0))", null(), "", api.ErrKind},
		{"add(div(1, 0), len(.a))", null(), "", api.ErrRange},
		{"upper(div(1, 0))", null(), "", api.ErrRange},
		{"add($x, len(.a))", null(), "", api.ErrName},
		{"join(.l, \",\")", null(), "", api.ErrKind},
		{"default(.a, $x)", num(1), "", api.OK},
		{"default(.z, .d)", fact("n"), "", api.OK},
		{"default(.z, $x)", null(), "", api.ErrName},
		{"default(.d, 1)", num(5), "n", api.OK},
		{`default(fact("none"), fact("n"))`, fact("n"), "none", api.OK},
		{`default(fact("none"), fact("none").x)`, null(), "none", api.OK},
		{"default(div(1, 0), 2)", null(), "", api.ErrRange},
		{"not .a", truth(false), "", api.OK},
		{"not .z", truth(true), "", api.OK},
		{`not fact("no")`, truth(true), "no", api.OK},
		{".a and 2", truth(true), "", api.OK},
		{".a and .z", truth(false), "", api.OK},
		{".z and $x", truth(false), "", api.OK},
		{".a and $x", null(), "", api.ErrName},
		{`fact("no") and fact("n")`, truth(false), "no", api.OK},
		{`fact("n") and fact("no")`, truth(false), "n no", api.OK},
		{".a or $x", truth(true), "", api.OK},
		{".z or $x", null(), "", api.ErrName},
		{".z or nil", truth(false), "", api.OK},
		{".z or .l", truth(true), "", api.OK},
		{`fact("n") or fact("no")`, truth(true), "n", api.OK},
		{`fact("no") or fact("n")`, truth(true), "no n", api.OK},
		{"1 < 2", truth(true), "", api.OK},
		{"2 < 2", truth(false), "", api.OK},
		{"2 <= 2", truth(true), "", api.OK},
		{"3 <= 2", truth(false), "", api.OK},
		{"3 > 2", truth(true), "", api.OK},
		{"2 > 2", truth(false), "", api.OK},
		{"2 >= 2", truth(true), "", api.OK},
		{"1 >= 2", truth(false), "", api.OK},
		{"1 == 1", truth(true), "", api.OK},
		{"1 == 2", truth(false), "", api.OK},
		{"1 != 1", truth(false), "", api.OK},
		{"1 != 2", truth(true), "", api.OK},
		{`fact("s") == "<b>"`, truth(true), "s", api.OK},
		{`.d == fact("one")`, truth(true), "n one", api.OK},
		{`fact("one") < .d`, truth(false), "one n", api.OK},
		{"1 == \"1\"", truth(false), "", api.OK},
		{"1 != \"1\"", truth(true), "", api.OK},
		{".l == .l", truth(false), "", api.OK},
		{".l != .l", truth(true), "", api.OK},
		{"nil == nil", truth(true), "", api.OK},
		{"nil <= nil", truth(true), "", api.OK},
		{"nil == false", truth(false), "", api.OK},
		{"false < true", truth(true), "", api.OK},
		{"1 < \"1\"", null(), "", api.ErrKind},
		{"1 <= nil", null(), "", api.ErrKind},
		{".l > .l", null(), "", api.ErrKind},
		{".l >= 1", null(), "", api.ErrKind},
		{"1 == $x", null(), "", api.ErrName},
		{"len(1) < $x", null(), "", api.ErrKind},
		{`first(.l, 1)[0]`, num(7), "", api.OK},
		{`last(.l, 2)[0].a`, str("A"), "t", api.OK},
	} {
		v, reads, e := tmpl.Eval(expr(t, c.expr), dot, someFacts())
		want := strings.Fields(c.reads)
		if c.reads == " " {
			want = []string{""}
		}
		expect(t, c.expr, v, e, c.want, c.e)
		expect(t, c.expr+" reads", reads, e, want, c.e)
	}
}

// P5.5: a dot that is a fact, or no table.
func TestEvalDots(t *testing.T) {
	malformed := api.Value{Kind: api.Table, Keys: []string{"b", "a", "b", "c"}, Items: []api.Value{num(1), num(2), num(3)}}
	for _, c := range []struct {
		expr  string
		dot   api.Value
		want  api.Value
		reads string
		e     api.Errno
	}{
		{".", fact("t"), fact("t"), "", api.OK},
		{".a", fact("t"), str("A"), "t", api.OK},
		{"not .", fact("x"), truth(true), "x", api.OK},
		{".a", null(), null(), "", api.OK},
		{".b", malformed, num(1), "", api.OK},
		{".c", malformed, null(), "", api.OK},
		{".a", malformed, num(2), "", api.OK},
		{".a", api.Value{Kind: api.List, Keys: []string{"a"}, Items: many(1, num(1))}, null(), "", api.OK},
		{".[0]", listOf(num(1)), num(1), "", api.OK},
		{".", other(9), other(9), "", api.OK},
		{"len(.)", other(9), null(), "", api.ErrKind},
	} {
		v, reads, e := tmpl.Eval(expr(t, c.expr), c.dot, someFacts())
		expect(t, c.expr+show(c.dot), v, e, c.want, c.e)
		expect(t, c.expr+" reads", reads, e, strings.Fields(c.reads), c.e)
	}
}

// stepsTree is an expression of so many nodes.
func stepsTree(n int) tmpl.Expr {
	if n == 1 {
		return constant(str("a"))
	}
	if n < 4 {
		return of(tmpl.Func, "string", stepsTree(n-1))
	}
	n--
	return of(tmpl.Func, "replace", stepsTree(n/3), stepsTree((n+1)/3), stepsTree((n+2)/3))
}

// P5.5: how many steps an expression can take; what is not evaluated counts for nothing.
func TestEvalSteps(t *testing.T) {
	for _, c := range []struct {
		x    tmpl.Expr
		want api.Value
		e    api.Errno
	}{
		{stepsTree(tmpl.MaxSteps), str("a"), api.OK},
		{stepsTree(tmpl.MaxSteps + 1), null(), api.ErrLarge},
		{of(tmpl.Func, "string", stepsTree(tmpl.MaxSteps-1)), str("a"), api.OK},
		{of(tmpl.Func, "len", stepsTree(tmpl.MaxSteps)), null(), api.ErrLarge},
		{of(tmpl.Func, "default", stepsTree(tmpl.MaxSteps-1), stepsTree(5)), str("a"), api.OK},
		{of(tmpl.Func, "default", stepsTree(tmpl.MaxSteps), stepsTree(5)), null(), api.ErrLarge},
		{of(tmpl.Or, "", stepsTree(tmpl.MaxSteps-1), stepsTree(5)), truth(true), api.OK},
		{of(tmpl.And, "", stepsTree(tmpl.MaxSteps-6), stepsTree(5)), truth(true), api.OK},
		{of(tmpl.And, "", stepsTree(tmpl.MaxSteps-5), stepsTree(5)), null(), api.ErrLarge},
		{of(tmpl.And, "", stepsTree(tmpl.MaxSteps-1), of(tmpl.Var, "x")), null(), api.ErrLarge},
		{of(tmpl.And, "", stepsTree(tmpl.MaxSteps-2), of(tmpl.Var, "x")), null(), api.ErrName},
		{of(tmpl.Cmp, "<", stepsTree(tmpl.MaxSteps-2), constant(num(1))), null(), api.ErrKind},
		{of(tmpl.Cmp, "<", stepsTree(tmpl.MaxSteps-1), constant(num(1))), null(), api.ErrLarge},
	} {
		v, _, e := tmpl.Eval(c.x, null(), nil)
		expect(t, "an expression of many steps", v, e, c.want, c.e)
	}
}
