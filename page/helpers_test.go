package page_test

import (
	"fmt"
	"math/rand"
	"strings"
	"testing"

	"masthead/api"
	"masthead/mark"
	"masthead/page"
	"masthead/tmpl"
)

func str(s string) api.Value  { return api.Value{Kind: api.String, Text: s} }
func num(n int) api.Value     { return api.Value{Kind: api.Int, Int: n} }
func safe(s string) api.Value { return api.Value{Kind: api.Safe, Text: s} }
func fact(s string) api.Value { return api.Value{Kind: api.Fact, Text: s} }

func listOf(l ...api.Value) api.Value { return api.Value{Kind: api.List, Items: l} }

// table is a table of keys and values, in turn.
func table(l ...any) api.Value {
	v := api.Value{Kind: api.Table}
	for i := 0; i < len(l); i += 2 {
		v.Keys, v.Items = append(v.Keys, l[i].(string)), append(v.Items, l[i+1].(api.Value))
	}
	return v
}

// facts are facts of names and values, in turn.
func facts(l ...any) []api.Named {
	var out []api.Named
	for i := 0; i < len(l); i += 2 {
		out = append(out, api.Named{Name: l[i].(string), Value: l[i+1].(api.Value)})
	}
	return out
}

// set is a set of templates, by their names and strings in turn.
func set(l ...string) []tmpl.Source {
	var out []tmpl.Source
	for i := 0; i < len(l); i += 2 {
		out = append(out, tmpl.Source{Name: l[i], Text: l[i+1]})
	}
	return out
}

func parts(l ...page.Part) []page.Part { return l }

// text is a part that is markup.
func text(s string) page.Part { return page.Part{Text: s} }

// args are arguments: "x" is one without a name, "k=x" one with a name.
func args(l ...string) []page.Arg {
	var out []page.Arg
	for _, s := range l {
		name, value, ok := strings.Cut(s, "=")
		if !ok {
			name, value = "", s
		}
		out = append(out, page.Arg{Name: name, Value: value})
	}
	return out
}

// whole is a shortcode of one line.
func whole(name string, l ...string) page.Part { return page.Part{Name: name, Args: args(l...)} }

// around is a shortcode with a closing line.
func around(name string, inner ...page.Part) page.Part {
	return page.Part{Name: name, Ends: true, Inner: inner}
}

// lines is a body of lines.
func lines(l ...string) string { return strings.Join(l, "\n") + "\n" }

// wide is a string of so many bytes.
func wide(n int) string { return strings.Repeat("x", n) }

// show writes anything as a line; empty and nil lists are the same.
func show(x any) string { return fmt.Sprintf("%+v", x) }

// short is the beginning of a string, for messages.
func short(s string) string {
	if len(s) > 400 {
		return fmt.Sprintf("%q.. (%d bytes)", s[:400], len(s))
	}
	return fmt.Sprintf("%q", s)
}

// expect checks what a call returns with its error.
func expect(t *testing.T, name string, got any, e api.Errno, want any, wantError api.Errno) {
	t.Helper()
	if e != wantError || show(got) != show(want) {
		t.Errorf("%s\n got %s, error %d\nwant %s, error %d", short(name), short(show(got)), e, short(show(want)), wantError)
	}
}

// split are the parts of a body that is known to be right.
func split(t *testing.T, body string) []page.Part {
	t.Helper()
	l, _, e := page.Split(body)
	if e != api.OK {
		t.Fatalf("Split of %s: error %d", short(body), e)
	}
	return l
}

// document is that of a string that is known to be right.
func document(t *testing.T, s string) []mark.Node {
	t.Helper()
	doc, e := mark.Parse(s)
	if e != api.OK {
		t.Fatalf("Parse of %s: error %d", short(s), e)
	}
	return doc
}

// open are lines that open so many shortcodes, one in another, and those that close them.
func open(many int) (opening, closing string) {
	return strings.Repeat("{< a >}\n", many), strings.Repeat("{< /a >}\n", many)
}

var blocks = []string{"a *b **c** d*", "# A", "## B `c` *d*", "- x", "- # A", "  y", "1. z", "> q", "> ## A", ">", "| a | *b* |", "| [t](/u) | ![v](w) |", "---", "```", "```go x", "<&\">", "[a](b)", "[*l*](ref:)", "[r](ref:../b#x \"T\")", "[![i](asset:i.png) k](/x)", "![j](asset:none \"<\")", "# [h](ref:c/) ![k](l)", "\\", "", "  ", "{<", " {< a />}", "x\\"}

var shortcodes = []string{"{< a />}", "{< b >}", "{< /b >}", "{< note x k=y >}", "{< /note >}", "{< a \"x \\\" y\" />}"}

// randomBody is a body of some lines, mostly one that can be split.
func randomBody(r *rand.Rand, many int) string {
	var l, open []string
	fenced := false
	for range r.Intn(many) {
		line := blocks[r.Intn(len(blocks))]
		if r.Intn(3) == 0 {
			line = shortcodes[r.Intn(len(shortcodes))]
			name := strings.Fields(line)[1]
			switch {
			case fenced || !strings.HasSuffix(line, " >}"):
			case name[0] != '/':
				open = append(open, name)
			case len(open) > 0:
				line, open = "{< /"+open[len(open)-1]+" >}", open[:len(open)-1]
			default:
				line = "x"
			}
		}
		if strings.HasPrefix(line, "```") {
			fenced = !fenced || line != "```"
		}
		l = append(l, line)
	}
	if fenced {
		l = append(l, "```")
	}
	for i := len(open) - 1; i >= 0; i-- {
		l = append(l, "{< /"+open[i]+" >}")
	}
	return strings.Join(l, "\n") + strings.Repeat("\n", r.Intn(2))
}
