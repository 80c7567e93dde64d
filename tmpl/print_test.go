package tmpl_test

import (
	"math/rand"
	"strings"
	"testing"

	"masthead/api"
	"masthead/tmpl"
)

func textNode(s string) tmpl.Node      { return tmpl.Node{Kind: tmpl.Text, Text: s} }
func insert(x tmpl.Expr) tmpl.Node     { return tmpl.Node{Kind: tmpl.Insert, Expr: x} }
func nodes(l ...tmpl.Node) []tmpl.Node { return l }

// inside is a node with a Body and an Else.
func inside(kind int, name string, body, other []tmpl.Node) tmpl.Node {
	return tmpl.Node{Kind: kind, Name: name, Expr: dot(), Body: body, Else: other}
}

// ifs are so many nodes of a kind in each other's Body.
func ifs(n int, inner ...tmpl.Node) []tmpl.Node {
	for range n {
		inner = nodes(inside(tmpl.If, "", inner, nil))
	}
	return inner
}

// P5.1: how templates are printed.
func TestPrint(t *testing.T) {
	for text, want := range map[string]string{
		"":                               "",
		"a{{.b}}c":                       "a{{ .b }}c",
		"}}{":                            "}}{",
		"{{.}}{":                         "{{ . }}{",
		"{{.}}}":                         "{{ . }}}",
		"{ {{.}}":                        "{ {{ . }}",
		"{{ (.a) }}{{ 1==2 }}":           "{{ .a }}{{ 1 == 2 }}",
		"{{if .a}}x{{end}}":              "{{ if .a }}x{{ end }}",
		"{{if .a}}x{{else}}{{end}}":      "{{ if .a }}x{{ end }}",
		"{{if .a}}x{{else}}y{{end}}":     "{{ if .a }}x{{ else }}y{{ end }}",
		"{{if .a}}{{else}}y{{end}}":      "{{ if .a }}{{ else }}y{{ end }}",
		"{{if 1}}x{{else if 2}}y{{end}}": "{{ if 1 }}x{{ else if 2 }}y{{ end }}",
		"{{if 1}}{{else}}{{if 2}}y{{end}}{{end}}":                    "{{ if 1 }}{{ else if 2 }}y{{ end }}",
		"{{if 1}}{{else if 2}}y{{else if 3}}z{{else}}w{{end}}v":      "{{ if 1 }}{{ else if 2 }}y{{ else if 3 }}z{{ else }}w{{ end }}v",
		"{{if 1}}{{else}}{{if 2}}{{end}}.{{end}}":                    "{{ if 1 }}{{ else }}{{ if 2 }}{{ end }}.{{ end }}",
		"{{if 1}}{{else}}.{{if 2}}{{end}}{{end}}":                    "{{ if 1 }}{{ else }}.{{ if 2 }}{{ end }}{{ end }}",
		"{{if 1}}{{else}}{{with 2}}{{end}}{{end}}":                   "{{ if 1 }}{{ else }}{{ with 2 }}{{ end }}{{ end }}",
		"{{with 1}}{{else}}{{if 2}}{{end}}{{end}}":                   "{{ with 1 }}{{ else }}{{ if 2 }}{{ end }}{{ end }}",
		"{{each  x  in  .a}}{{else}}{{if 2}}{{else}}b{{end}}{{end}}": "{{ each x in .a }}{{ else }}{{ if 2 }}{{ else }}b{{ end }}{{ end }}",
		"{{let x =  1}}{{call  \"a/b\" .}}{{with .}}{{#}}{{end}}":    "{{ let x = 1 }}{{ call \"a/b\" . }}{{ with . }}{{ end }}",
		"{{ \"a}}\\\"\\n\" }}":                                       "{{ \"a}}\\\"\\n\" }}",
	} {
		l, _, e := tmpl.Parse(text)
		if e != api.OK {
			t.Errorf("Parse(%q): error %d", text, e)
		}
		got, e := tmpl.Print(l)
		expect(t, text, got, e, want, api.OK)
	}
}

// P5.1: which nodes cannot be printed, and what counts first.
func TestPrintErrors(t *testing.T) {
	bad := tmpl.Expr{Kind: 99}
	unknown := of(tmpl.Func, "foo", dot())
	for _, c := range []struct {
		name string
		l    []tmpl.Node
		e    api.Errno
	}{
		{"no Kind", nodes(tmpl.Node{}), api.ErrKind},
		{"a Kind below", nodes(tmpl.Node{Kind: -1}), api.ErrKind},
		{"a Kind above", nodes(tmpl.Node{Kind: 8, Name: "x"}), api.ErrKind},
		{"a Kind in a Body", ifs(1, tmpl.Node{}), api.ErrKind},
		{"a Kind in an Else", nodes(inside(tmpl.If, "", nil, nodes(tmpl.Node{}))), api.ErrKind},
		{"an empty Text", nodes(textNode("")), api.ErrForm},
		{"two Texts", nodes(textNode("a"), textNode("b")), api.ErrForm},
		{"two Texts in a Body", ifs(1, textNode("a"), textNode("b")), api.ErrForm},
		{"two Texts apart", nodes(textNode("a"), insert(dot()), textNode("b")), api.OK},
		{"braces", nodes(textNode("a{{b")), api.ErrForm},
		{"a brace before an action", nodes(textNode("a{"), insert(dot())), api.ErrForm},
		{"a brace before a Call", nodes(textNode("{"), tmpl.Node{Kind: tmpl.Call, Name: "a", Expr: dot()}), api.ErrForm},
		{"a brace before a Let", nodes(textNode("{"), tmpl.Node{Kind: tmpl.Let, Name: "a", Expr: dot()}), api.ErrForm},
		{"a brace before an If", append(nodes(textNode("{")), ifs(1)...), api.ErrForm},
		{"a brace at the end", nodes(textNode("a{")), api.OK},
		{"a brace at the end of a Body", ifs(1, textNode("a{")), api.ErrForm},
		{"a brace at the end of an Else", nodes(inside(tmpl.If, "", nil, nodes(textNode("{")))), api.ErrForm},
		{"a brace after an action", nodes(insert(dot()), textNode("{")), api.OK},
		{"a brace within", nodes(textNode("{a"), insert(dot())), api.OK},
		{"a brace before what is none", nodes(textNode("{"), tmpl.Node{Kind: 9}), api.ErrKind},
		{"a brace before what is none in a Body", ifs(1, textNode("{"), tmpl.Node{}), api.ErrKind},
		{"a Text with a Name", nodes(tmpl.Node{Kind: tmpl.Text, Text: "a", Name: "b"}), api.ErrForm},
		{"a Text with an Expr", nodes(tmpl.Node{Kind: tmpl.Text, Text: "a", Expr: dot()}), api.ErrForm},
		{"a Text with an Expr's Name", nodes(tmpl.Node{Kind: tmpl.Text, Text: "a", Expr: tmpl.Expr{Name: "a"}}), api.ErrForm},
		{"a Text with an Expr's Value", nodes(tmpl.Node{Kind: tmpl.Text, Text: "a", Expr: tmpl.Expr{Value: num(0)}}), api.ErrForm},
		{"a Text with an Expr's Args", nodes(tmpl.Node{Kind: tmpl.Text, Text: "a", Expr: tmpl.Expr{Args: []tmpl.Expr{dot()}}}), api.ErrForm},
		{"a Text with a Body", nodes(tmpl.Node{Kind: tmpl.Text, Text: "a", Body: nodes(textNode("b"))}), api.ErrForm},
		{"a Text with an Else", nodes(tmpl.Node{Kind: tmpl.Text, Text: "a", Else: nodes(textNode("b"))}), api.ErrForm},
		{"a Text with empty lists", nodes(tmpl.Node{Kind: tmpl.Text, Text: "a", Else: nodes(), Body: nodes(), Expr: tmpl.Expr{Args: []tmpl.Expr{}, Value: api.Value{Items: []api.Value{}, Keys: []string{}}}}), api.OK},
		{"an Insert with a Text", nodes(tmpl.Node{Kind: tmpl.Insert, Text: "a", Expr: dot()}), api.ErrForm},
		{"an Insert with a Name", nodes(tmpl.Node{Kind: tmpl.Insert, Name: "a", Expr: dot()}), api.ErrForm},
		{"an Insert with a Body", nodes(tmpl.Node{Kind: tmpl.Insert, Expr: dot(), Body: nodes(textNode("b"))}), api.ErrForm},
		{"an Insert with an Else", nodes(tmpl.Node{Kind: tmpl.Insert, Expr: dot(), Else: nodes(textNode("b"))}), api.ErrForm},
		{"an If with a Text", nodes(tmpl.Node{Kind: tmpl.If, Text: "a", Expr: dot()}), api.ErrForm},
		{"an If with a Name", nodes(inside(tmpl.If, "a", nil, nil)), api.ErrForm},
		{"a With with a Name", nodes(inside(tmpl.With, "a", nil, nil)), api.ErrForm},
		{"an Each without a Name", nodes(inside(tmpl.Each, "", nil, nil)), api.ErrForm},
		{"an Each with a Name that is none", nodes(inside(tmpl.Each, "in", nil, nil)), api.ErrForm},
		{"an Each", nodes(inside(tmpl.Each, "a", nil, nil)), api.OK},
		{"a Let with a Name that is none", nodes(tmpl.Node{Kind: tmpl.Let, Name: "A", Expr: dot()}), api.ErrForm},
		{"a Let with a long Name", nodes(tmpl.Node{Kind: tmpl.Let, Name: wide(21), Expr: dot()}), api.ErrForm},
		{"a Let", nodes(tmpl.Node{Kind: tmpl.Let, Name: wide(20), Expr: dot()}), api.OK},
		{"a Let with a Body", nodes(tmpl.Node{Kind: tmpl.Let, Name: "a", Expr: dot(), Body: nodes(textNode("b"))}), api.ErrForm},
		{"a Call with a Name that is none", nodes(tmpl.Node{Kind: tmpl.Call, Name: "a/", Expr: dot()}), api.ErrForm},
		{"a Call without a Name", nodes(tmpl.Node{Kind: tmpl.Call, Expr: dot()}), api.ErrForm},
		{"a Call", nodes(tmpl.Node{Kind: tmpl.Call, Name: "a/b-c", Expr: dot()}), api.OK},
		{"a Call with an Else", nodes(tmpl.Node{Kind: tmpl.Call, Name: "a", Expr: dot(), Else: nodes(textNode("b"))}), api.ErrForm},
		{"no Expr", nodes(insert(tmpl.Expr{})), api.ErrKind},
		{"an Expr of no Kind", nodes(insert(bad)), api.ErrKind},
		{"an Expr of no form", nodes(insert(of(tmpl.Not, ""))), api.ErrForm},
		{"a byte in an Expr", nodes(insert(constant(str("\x01")))), api.ErrByte},
		{"a function without arguments", nodes(insert(of(tmpl.Func, "len"))), api.ErrForm},
		{"an unknown function", nodes(insert(unknown)), api.ErrName},
		{"a deep Expr", nodes(insert(nots(13))), api.ErrDeep},
		{"a form before a Kind", nodes(tmpl.Node{Kind: tmpl.Insert, Name: "a", Expr: bad}), api.ErrForm},
		{"a form before a later Kind", nodes(textNode(""), tmpl.Node{}), api.ErrForm},
		{"a Kind before a later form", nodes(tmpl.Node{}, textNode("")), api.ErrKind},
		{"an Expr before a later Kind", nodes(insert(unknown), tmpl.Node{}), api.ErrName},
		{"a node before its Body", nodes(tmpl.Node{Kind: tmpl.If, Expr: unknown, Body: nodes(tmpl.Node{})}), api.ErrName},
		{"a Body before the Else", nodes(inside(tmpl.If, "", nodes(insert(unknown)), nodes(tmpl.Node{}))), api.ErrName},
		{"an Else before the next one", nodes(inside(tmpl.If, "", nil, nodes(insert(unknown))), tmpl.Node{}), api.ErrName},
		{"a byte of a Text", nodes(textNode("\x01")), api.ErrByte},
		{"a later Kind before a byte of a Text", nodes(textNode("\x01"), tmpl.Node{}), api.ErrKind},
		{"a byte of a later Expr before one of a Text", nodes(textNode("\x01"), insert(nots(13))), api.ErrDeep},
		{"just not too deep", ifs(12, textNode("a")), api.OK},
		{"too deep", ifs(13), api.ErrDeep},
		{"too deep in an Else", nodes(inside(tmpl.If, "", nil, ifs(12))), api.ErrDeep},
		{"a byte before too deep", append(ifs(13), textNode("\x01")), api.ErrByte},
		{"just not too large", nodes(textNode(wide(tmpl.MaxText))), api.OK},
		{"too large", nodes(textNode(wide(tmpl.MaxText + 1))), api.ErrLarge},
		{"just not too large with actions", nodes(textNode(wide(tmpl.MaxText-7)), insert(dot())), api.OK},
		{"too large with actions", nodes(textNode(wide(tmpl.MaxText-6)), insert(dot())), api.ErrLarge},
		{"too large after as much as can be", nodes(textNode(wide(tmpl.MaxText-7)), insert(dot()), textNode("a")), api.ErrLarge},
		{"too large before a byte", nodes(textNode("\x01" + wide(tmpl.MaxText))), api.ErrLarge},
		{"too large before too deep", append(ifs(13), textNode(wide(tmpl.MaxText))), api.ErrLarge},
		{"far too deep", ifs(100_000), api.ErrLarge},
		{"a Kind before far too deep", ifs(100_000, tmpl.Node{}), api.ErrKind},
		{"too much of else if", elseIfs(3000), api.ErrLarge},
		{"else if, too deep", elseIfs(13), api.ErrDeep},
		{"else if, as deep as can be", elseIfs(12), api.OK},
	} {
		s, e := tmpl.Print(c.l)
		if e != c.e || e != api.OK && s != "" {
			t.Errorf("%s: error %d, %s; want %d", c.name, e, short(s), c.e)
		}
	}
}

// elseIfs are so many Ifs, each one the Else of the one before.
func elseIfs(n int) []tmpl.Node {
	var l []tmpl.Node
	for range n {
		l = nodes(inside(tmpl.If, "", nil, l))
	}
	return l
}

// randomNodes are nodes that can be printed, so many deep at most.
func randomNodes(r *rand.Rand, deep int) []tmpl.Node {
	var l []tmpl.Node
	texts := []string{"a", "}}", "{a", "<p>", "\n", "\x80", " } ", "#", "\"", "{ {"}
	for range r.Intn(4) {
		n := tmpl.Node{Kind: 1 + r.Intn(7), Expr: randomExpr(r, 3)}
		switch n.Kind {
		case tmpl.Text:
			n = textNode(texts[r.Intn(len(texts))])
			if k := len(l); k > 0 && l[k-1].Kind == tmpl.Text {
				continue
			}
			if strings.HasSuffix(n.Text, "{") {
				n.Text += "x"
			}
		case tmpl.Let:
			n.Name = "v"
		case tmpl.Call:
			n.Name = "t/x"
		case tmpl.If, tmpl.With, tmpl.Each:
			if deep <= 0 {
				continue
			}
			n.Body, n.Else = randomNodes(r, deep-1), randomNodes(r, deep-1)
			if n.Kind == tmpl.Each {
				n.Name = "item"
			}
		}
		l = append(l, n)
	}
	return l
}

// P5.1: what is printed is parsed as the same nodes, and printed again in the same way.
func TestPrintParse(t *testing.T) {
	r := rand.New(rand.NewSource(1))
	printed := 0
	for range 2000 {
		l := randomNodes(r, 4)
		s, e := tmpl.Print(l)
		if e == api.ErrLarge {
			continue
		}
		printed++
		again, _, e2 := tmpl.Parse(s)
		if e != api.OK || e2 != api.OK || show(again) != show(l) {
			t.Fatalf("%s: error %d\n%s: error %d", dump(l), e, dump(again), e2)
		}
		if s2, _ := tmpl.Print(again); s2 != s {
			t.Fatalf("%q is printed as %q", s, s2)
		}
	}
	if printed < 1000 {
		t.Errorf("only %d printed", printed)
	}
}
