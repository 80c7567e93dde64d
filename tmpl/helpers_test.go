package tmpl_test

import (
	"fmt"
	"strconv"
	"strings"
	"testing"

	"masthead/api"
	"masthead/tmpl"
)

func null() api.Value          { return api.Value{} }
func truth(b bool) api.Value   { return api.Value{Kind: api.Bool, Bool: b} }
func num(n int) api.Value      { return api.Value{Kind: api.Int, Int: n} }
func day(n int) api.Value      { return api.Value{Kind: api.Day, Int: n} }
func str(s string) api.Value   { return api.Value{Kind: api.String, Text: s} }
func safe(s string) api.Value  { return api.Value{Kind: api.Safe, Text: s} }
func fact(s string) api.Value  { return api.Value{Kind: api.Fact, Text: s} }
func other(kind int) api.Value { return api.Value{Kind: kind} }

func listOf(l ...api.Value) api.Value { return api.Value{Kind: api.List, Items: l} }

// table is a table of keys and values, in turn.
func table(l ...any) api.Value {
	v := api.Value{Kind: api.Table}
	for i := 0; i < len(l); i += 2 {
		v.Keys, v.Items = append(v.Keys, l[i].(string)), append(v.Items, l[i+1].(api.Value))
	}
	return v
}

// many are so many equal values.
func many(n int, v api.Value) []api.Value {
	l := make([]api.Value, n)
	for i := range l {
		l[i] = v
	}
	return l
}

// nested is a value with so many lists around it.
func nested(lists int, v api.Value) api.Value {
	for range lists {
		v = listOf(v)
	}
	return v
}

// wide is a string of so many bytes.
func wide(n int) string { return strings.Repeat("x", n) }

// show writes anything as a line; empty and nil lists are the same.
func show(x any) string { return fmt.Sprintf("%+v", x) }

// short is the beginning of a string, for messages.
func short(s string) string {
	if len(s) > 300 {
		return fmt.Sprintf("%q.. (%d bytes)", s[:300], len(s))
	}
	return fmt.Sprintf("%q", s)
}

// expect checks what a call returns with its error.
func expect(t *testing.T, name string, got any, e api.Errno, want any, wantError api.Errno) {
	t.Helper()
	if e != wantError || show(got) != show(want) {
		t.Errorf("%s\n got %s, error %d\nwant %s, error %d", short(name), short(show(got)), e, short(show(want)), wantError)
	}
}

// dump writes nodes so that one sees what they are.
func dump(l []tmpl.Node) string {
	var out []string
	for _, n := range l {
		inside := func() string { return "{" + dump(n.Body) + "}{" + dump(n.Else) + "}" }
		x := "(" + dumpExpr(n.Expr) + ")"
		switch n.Kind {
		case tmpl.Text:
			out = append(out, strconv.Quote(n.Text))
		case tmpl.Insert:
			out = append(out, "insert"+x)
		case tmpl.If:
			out = append(out, "if"+x+inside())
		case tmpl.Each:
			out = append(out, "each "+n.Name+x+inside())
		case tmpl.With:
			out = append(out, "with"+x+inside())
		case tmpl.Let:
			out = append(out, "let "+n.Name+x)
		case tmpl.Call:
			out = append(out, "call "+n.Name+x)
		default:
			out = append(out, "?")
		}
	}
	return strings.Join(out, " ")
}

func dumpExpr(x tmpl.Expr) string {
	var args []string
	for _, arg := range x.Args {
		args = append(args, dumpExpr(arg))
	}
	inside := "(" + strings.Join(args, " ") + ")"
	switch x.Kind {
	case tmpl.Const:
		return map[int]string{api.Nil: "nil", api.Bool: fmt.Sprint(x.Value.Bool), api.Int: fmt.Sprint(x.Value.Int), api.String: strconv.Quote(x.Value.Text)}[x.Value.Kind]
	case tmpl.Dot:
		return "."
	case tmpl.Var:
		return "$" + x.Name
	case tmpl.Field:
		return "field " + x.Name + inside
	case tmpl.At:
		return "at" + inside
	case tmpl.Func:
		return "func " + x.Name + inside
	case tmpl.Not:
		return "not" + inside
	case tmpl.And:
		return "and" + inside
	case tmpl.Or:
		return "or" + inside
	case tmpl.Cmp:
		return x.Name + inside
	}
	return "?"
}

// expr is an expression that is known to be right.
func expr(t *testing.T, s string) tmpl.Expr {
	t.Helper()
	x, e := tmpl.ParseExpr(s)
	if e != api.OK {
		t.Fatalf("ParseExpr(%q): error %d", s, e)
	}
	return x
}

// constant is a constant.
func constant(v api.Value) tmpl.Expr { return tmpl.Expr{Kind: tmpl.Const, Value: v} }

// dot is the dot.
func dot() tmpl.Expr { return tmpl.Expr{Kind: tmpl.Dot} }

// of is an expression with arguments.
func of(kind int, name string, args ...tmpl.Expr) tmpl.Expr {
	return tmpl.Expr{Kind: kind, Name: name, Args: args}
}

// nots is an expression that is so many deep.
func nots(deep int) tmpl.Expr {
	x := dot()
	for range deep - 1 {
		x = of(tmpl.Not, "", x)
	}
	return x
}

// set is a set of templates, by their names and strings in turn.
func set(l ...string) []tmpl.Source {
	var out []tmpl.Source
	for i := 0; i < len(l); i += 2 {
		out = append(out, tmpl.Source{Name: l[i], Text: l[i+1]})
	}
	return out
}
