package tmpl_test

import (
	"math/rand"
	"strings"
	"testing"

	"masthead/api"
	"masthead/tmpl"
)

// piece is a piece with a context.
func piece(context int, text string) tmpl.Piece { return tmpl.Piece{Context: context, Text: text} }

// P5.10: what templates give; the reads are written in one string.
func TestRun(t *testing.T) {
	dot := table("a", str("<&\">'"), "d", day(0), "f", fact("n"), "l", listOf(num(1), fact("one"), str("<")), "n", num(5), "s", safe("<b>&"), "t", table("x", num(1), "y", num(2)), "u", str("/a b?c"), "z", num(0))
	for _, c := range []struct {
		text, want, reads string
		e                 api.Errno
	}{
		{"", "", "", api.OK},
		{"a<b>\n", "a<b>\n", "", api.OK},
		{"{{# a }}a{{# b }}", "a", "", api.OK},
		// inserts in their contexts
		{"{{ .a }}{{ .s }}{{ .d }}{{ .n }}{{ .x }}{{ true }}", "&lt;&amp;&quot;&gt;'<b>&1970-01-015true", "", api.OK},
		{"<p a=\"{{ .a }}{{ .s }}{{ .d }}\">", "<p a=\"&lt;&amp;&quot;&gt;'&lt;b&gt;&amp;1970-01-01\">", "", api.OK},
		{"<title>{{ .a }}{{ .s }}{{ .n }}</title>", "<title>&lt;&amp;&quot;&gt;'&lt;b&gt;&amp;5</title>", "", api.OK},
		{"<a href=\"{{ .u }}\">", "<a href=\"/a%20b?c\">", "", api.OK},
		{"<a href=\"/{{ .u }}{{ .s }}\">", "<a href=\"/%2Fa%20b%3Fc%3Cb%3E%26\">", "", api.OK},
		{"<a href=\"{{ .u }}/{{ .u }}\">", "<a href=\"/a%20b?c/%2Fa%20b%3Fc\">", "", api.OK},
		{"<a href=\"{{ \"x:y\" }}?{{ \"x:y\" }}\">", "<a href=\"#?x%3Ay\">", "", api.OK},
		{"<a href=\"{{ .d }}\"><a href=\"{{ nil }}\">", "<a href=\"1970-01-01\"><a href=\"\">", "", api.OK},
		{"<a href=\"{{ if . }}{{ end }}{{ \"x:\" }}\">", "<a href=\"#\">", "", api.OK},
		{"<script> {{ .a }} {{ .s }} {{ .l[0] }} {{ .t }} {{ .d }} {{ nil }} </script>", "<script> \"\\u003c\\u0026\\\"\\u003e\\u0027\" \"\\u003cb\\u003e\\u0026\" 1 {\"x\":1,\"y\":2} \"1970-01-01\" null </script>", "", api.OK},
		{"{{ .f }}{{ fact(\"s\") }}", "5<b>", "n s", api.OK},
		{"<script> {{ .f }} </script>", "<script> 5 </script>", "n", api.OK},
		{"{{ .l }}", "", "", api.ErrKind},
		{"<p a=\"{{ .t }}\">", "", "", api.ErrKind},
		{"<title>{{ .l }}</title>", "", "", api.ErrKind},
		{"<a href=\"{{ .l }}\">", "", "", api.ErrKind},
		{"<script> {{ .l }} </script>", "", "", api.ErrKind},
		{"{{ $x }}", "", "", api.ErrName},
		{"{{ div(1, 0) }}", "", "", api.ErrRange},
		// If
		{"{{ if .n }}a{{ end }}{{ if .z }}b{{ end }}", "a", "", api.OK},
		{"{{ if .n }}a{{ else }}b{{ end }}{{ if .x }}c{{ else }}d{{ end }}", "ad", "", api.OK},
		{"{{ if .z }}a{{ else if .x }}b{{ else if .n }}c{{ else }}d{{ end }}", "c", "", api.OK},
		{"{{ if .z }}a{{ else if .x }}b{{ else }}c{{ end }}", "c", "", api.OK},
		{"{{ if fact(\"none\") }}a{{ else }}b{{ end }}{{ if .f }}c{{ end }}", "bc", "none n", api.OK},
		{"{{ if .z }}{{ $x }}{{ end }}", "", "", api.OK},
		{"{{ if $x }}{{ end }}", "", "", api.ErrName},
		// Each
		{"{{ each x in .l }}{{ $x }},{{ end }}", "1,5,&lt;,", "one n", api.OK},
		{"{{ each x in .l }}{{ else }}a{{ end }}", "", "", api.OK},
		{"{{ each x in .t }}{{ $x }}{{ .n }} {{ end }}", "15 25 ", "", api.OK},
		{"{{ each x in .x }}a{{ else }}b{{ end }}", "b", "", api.OK},
		{"{{ each x in .x }}a{{ end }}", "", "", api.OK},
		{"{{ each x in fact(\"l\") }}{{ $x }}{{ else }}b{{ end }}", "b", "l", api.OK},
		{"{{ each x in fact(\"t\") }}{{ if $x == 5 }}!{{ end }}{{ end }}", "!", "t one n", api.OK},
		{"{{ each x in .l }}{{ let y = $x }}{{ end }}{{ each z in .l }}.{{ end }}", "...", "", api.OK},
		{"{{ each x in .n }}a{{ end }}", "", "", api.ErrKind},
		{"{{ each x in .a }}{{ else }}a{{ end }}", "", "", api.ErrKind},
		{"{{ each x in false }}{{ end }}", "", "", api.ErrKind},
		{"{{ each x in .l }}{{ end }}{{ $x }}", "", "", api.ErrName},
		{"{{ each x in .x }}{{ else }}{{ $x }}{{ end }}", "", "", api.ErrName},
		{"{{ each x in .l }}{{ each x in list(7, 8) }}{{ $x }}{{ end }}{{ $x }} {{ end }}", "781 785 78&lt; ", "one n", api.OK},
		// With
		{"{{ with .t }}{{ .x }}{{ end }}{{ .n }}", "15", "", api.OK},
		{"{{ with .z }}a{{ else }}{{ .n }}{{ end }}", "5", "", api.OK},
		{"{{ with .x }}a{{ end }}{{ .n }}", "5", "", api.OK},
		{"{{ with fact(\"one\") }}{{ . }}{{ if . == 5 }}!{{ end }}{{ end }}", "5!", "one n", api.OK},
		{"{{ with .t }}{{ with .x }}{{ . }}{{ end }}{{ .y }}{{ end }}", "12", "", api.OK},
		{"{{ with fact(\"none\") }}a{{ else }}b{{ end }}", "b", "none", api.OK},
		// Let
		{"{{ let x = 1 }}{{ $x }}{{ let x = add($x, 1) }}{{ $x }}", "12", "", api.OK},
		{"{{ let x = 1 }}{{ if .n }}{{ let x = 2 }}{{ $x }}{{ end }}{{ $x }}", "21", "", api.OK},
		{"{{ let x = 1 }}{{ if .z }}{{ else }}{{ let x = 2 }}{{ $x }}{{ end }}{{ $x }}", "21", "", api.OK},
		{"{{ let x = 1 }}{{ with .t }}{{ $x }}{{ let x = 2 }}{{ $x }}{{ end }}{{ $x }}", "121", "", api.OK},
		{"{{ let x = 0 }}{{ each y in .l }}{{ let x = add($x, 1) }}{{ $x }}{{ end }}{{ $x }}", "1110", "", api.OK},
		{"{{ if .n }}{{ let x = 1 }}{{ end }}{{ $x }}", "", "", api.ErrName},
		{"{{ if .z }}{{ else if .n }}{{ let x = 1 }}{{ end }}{{ $x }}", "", "", api.ErrName},
		{"{{ let x = fact(\"s\") }}{{ let y = 1 }}{{ $x }}", "<b>", "s", api.OK},
		{"{{ let x = fact(\"s\") }}", "", "", api.OK},
		{"{{ let x = $x }}", "", "", api.ErrName},
		{"{{ let x = . }}{{ with .t }}{{ $x.n }}{{ end }}", "5", "", api.OK},
		// what happens first
		{"{{ .l }}{{ $x }}", "", "", api.ErrKind},
		{"{{ $x }}{{ .l }}", "", "", api.ErrName},
		{"{{ if .z }}{{ .l }}{{ end }}{{ div(1, 0) }}", "", "", api.ErrRange},
		{"{{ each x in list(1, 0) }}{{ div(1, $x) }}{{ end }}{{ .l }}", "", "", api.ErrRange},
	} {
		facts := []api.Named{{Name: "n", Value: num(5)}, {Name: "one", Value: fact("n")}, {Name: "s", Value: safe("<b>")}, {Name: "l", Value: listOf()}, {Name: "t", Value: listOf(fact("one"))}}
		x, e := tmpl.Run(set("x", c.text), "x", dot, facts)
		expect(t, c.text, tmpl.String(x.Pieces), e, c.want, c.e)
		want := []string{}
		if c.e == api.OK {
			want = append([]string{"template:x"}, strings.Fields(c.reads)...)
		}
		expect(t, c.text+" reads", x.Reads, e, want, c.e)
	}
}

// P5.10: the pieces of a run, with their contexts.
func TestPieces(t *testing.T) {
	text := "a{{ . }}<p x=\"{{ . }}\"><title>{{# }}{{ nil }}</title><a href=\"{{ . }}/{{ . }}\"><script>[ {{ . }} ]</script>{{ if . }}b{{ end }}{{ let x = . }}{{ each x in list(1, 2) }}c{{ end }}{{ call \"y\" . }}"
	x, e := tmpl.Run(set("x", text, "y", "d<title>{{ . }}</title>"), "x", str("<"), nil)
	want := []tmpl.Piece{piece(0, "a"), piece(tmpl.Data, "&lt;"), piece(0, "<p x=\""), piece(tmpl.Attr, "&lt;"), piece(0, "\"><title>"), piece(tmpl.Raw, ""), piece(0, "</title><a href=\""), piece(tmpl.Addr, "%3C"), piece(0, "/"), piece(tmpl.Addr, "%3C"), piece(0, "\"><script>[ "), piece(tmpl.Json, "\"\\u003c\""), piece(0, " ]</script>"), piece(0, "b"), piece(0, "c"), piece(0, "c"), piece(0, "d<title>"), piece(tmpl.Raw, "&lt;"), piece(0, "</title>")}
	expect(t, "pieces", x.Pieces, e, want, api.OK)
	if s, want := tmpl.Skeleton(x.Pieces), "ax<p x=\"x\"><title>x</title><a href=\"///\"><script>[ 0 ]</script>bccd<title>x</title>"; s != want {
		t.Errorf("Skeleton: %q, want %q", s, want)
	}
	if s, want := tmpl.String(x.Pieces), "a&lt;<p x=\"&lt;\"><title></title><a href=\"%3C/%3C\"><script>[ \"\\u003c\" ]</script>bccd<title>&lt;</title>"; s != want {
		t.Errorf("String: %q, want %q", s, want)
	}
	if tmpl.String(nil) != "" || tmpl.Skeleton(nil) != "" || tmpl.Skeleton([]tmpl.Piece{piece(0, "a"), piece(tmpl.Data, "")}) != "ax" {
		t.Error("few pieces")
	}
}

// P5.10: calls of other templates.
func TestCall(t *testing.T) {
	facts := []api.Named{{Name: "f", Value: table("a", num(1))}, {Name: "template:c", Value: num(7)}}
	for _, c := range []struct {
		set   []tmpl.Source
		want  string
		reads string
		e     api.Errno
	}{
		{set("b", "{{ .a }}", "x", "{{ call \"b\" . }}{{ call \"b\" .t }}{{ .a }}"), "121", "template:x template:b", api.OK},
		{set("b", "{{ .a }}", "x", "{{ call \"b\" fact(\"f\") }}"), "1", "template:x template:b f", api.OK},
		{set("b", "", "x", "{{ call \"b\" fact(\"f\") }}"), "", "template:x template:b", api.OK},
		{set("b", "{{ if . == nil }}!{{ end }}", "x", "{{ call \"b\" fact(\"g\").x }}{{ call \"b\" nil }}"), "!!", "template:x g template:b", api.OK},
		{set("b", "{{ $v }}", "x", "{{ let v = 1 }}{{ call \"b\" . }}"), "", "", api.ErrName},
		{set("b", "{{ let v = 2 }}{{ $v }}", "x", "{{ let v = 1 }}{{ call \"b\" . }}{{ $v }}"), "21", "template:x template:b", api.OK},
		{set("b", "{{ let v = 2 }}", "x", "{{ call \"b\" . }}{{ $v }}"), "", "", api.ErrName},
		{set("b", "{{ with .t }}{{ call \"c\" .a }}{{ end }}", "c", "{{ . }}", "x", "{{ call \"c\" 0 }}{{ call \"b\" . }}{{ .a }}"), "021", "template:x template:c template:b", api.OK},
		{set("c", "", "x", "{{ fact(\"template:c\") }}{{ call \"c\" . }}{{ fact(\"template:x\") }}"), "7", "template:x template:c", api.OK},
		{set("b", "b", "x", "{{ if .none }}{{ call \"b\" . }}{{ end }}"), "", "template:x", api.OK},
		{set("b", "b", "x", "{{ call \"b\" $v }}"), "", "", api.ErrName},
		{set("x", "{{ . }}{{ if . }}{{ call \"x\" sub(., 1) }}{{ end }}"), "", "", api.ErrKind},
		{set("x", "{{ call \"x\" . }}"), "", "", api.ErrDeep},
		{set("b", "{{ call \"x\" . }}", "x", "{{ call \"b\" . }}"), "", "", api.ErrDeep},
	} {
		x, e := tmpl.Run(c.set, "x", table("a", num(1), "t", table("a", num(2))), facts)
		expect(t, show(c.set), tmpl.String(x.Pieces), e, c.want, c.e)
		expect(t, show(c.set), x.Reads, e, strings.Fields(c.reads), c.e)
	}
	ring := set("x", "{{ . }} {{ if . }}{{ call \"x\" sub(., 1) }}{{ end }}{{ . }} ")
	for n, want := range map[int]api.Errno{0: api.OK, 1: api.OK, 12: api.OK, 13: api.ErrDeep, 100: api.ErrDeep} {
		if _, e := tmpl.Run(ring, "x", num(n), nil); e != want {
			t.Errorf("%d calls within each other: error %d", n, e)
		}
	}
	x, e := tmpl.Run(ring, "x", num(3), nil)
	expect(t, "calls within each other", tmpl.String(x.Pieces), e, "3 2 1 0 0 1 2 3 ", api.OK)
	many := set("b", ".", "x", strings.Repeat("{{ call \"b\" 1 }}", 50))
	x, e = tmpl.Run(many, "x", null(), nil)
	expect(t, "calls after each other", tmpl.String(x.Pieces), e, strings.Repeat(".", 50), api.OK)
	// The expression of a call comes before the call.
	last := set("x", "{{ call \"x\" div(1, sub(12, .n)) }}")
	if _, e := tmpl.Run(last, "x", table("n", num(12)), nil); e != api.ErrRange {
		t.Errorf("a call with an error: error %d", e)
	}
	count := set("x", "{{ if . == 0 }}{{ call \"x\" div(1, 0) }}{{ else }}{{ call \"x\" sub(., 1) }}{{ end }}")
	if _, e := tmpl.Run(count, "x", num(12), nil); e != api.ErrRange {
		t.Errorf("a call too deep with an error: error %d", e)
	}
}

// P5.10: errors before anything is run.
func TestRunErrors(t *testing.T) {
	for _, c := range []struct {
		set  []tmpl.Source
		name string
		e    api.Errno
	}{
		{nil, "x", api.ErrNone},
		{set("a", "a"), "x", api.ErrNone},
		{set("a", "a"), "", api.ErrNone},
		{set("a", "{{"), "x", api.ErrSyntax},
		{set("a", "", "b", "<"), "a", api.ErrSyntax},
		{set("a", "", "b", "{{ foo(.) }}"), "a", api.ErrSyntax},
		{set("a", "{{ call \"b\" . }}"), "a", api.ErrSyntax},
		{set("a", wide(tmpl.MaxText+1)), "a", api.ErrSyntax},
		{set("b", "", "a", ""), "a", api.ErrSyntax},
		{set("A", ""), "A", api.ErrSyntax},
		{make([]tmpl.Source, tmpl.MaxTemplates+1), "x", api.ErrSyntax},
	} {
		x, e := tmpl.Run(c.set, c.name, null(), nil)
		expect(t, short(show(c.set)), x, e, tmpl.Result{}, c.e)
	}
}

// stepsOf is how many steps a template takes, found by others that take known numbers.
func stepsOf(t *testing.T, text string, dot api.Value) int {
	t.Helper()
	templates := set("c", "<b>{{ . }}", "x", "{{ each z in .fill }}{{ end }}"+text)
	low, high := 0, tmpl.MaxSteps
	for low < high {
		middle := (low + high + 1) / 2
		filled := dot
		filled.Keys, filled.Items = append([]string{"fill"}, dot.Keys...), append(args(listOf(many(middle, null())...)), dot.Items...)
		switch _, e := tmpl.Run(templates, "x", filled, nil); e {
		case api.OK:
			low = middle
		case api.ErrLarge:
			high = middle - 1
		default:
			t.Fatalf("%s: error %d", text, e)
		}
	}
	return tmpl.MaxSteps - 3 - low
}

// P5.10: what counts as a step.
func TestRunSteps(t *testing.T) {
	dot := table("l", listOf(num(1), num(2)), "z", num(0))
	for text, want := range map[string]int{
		"":                                   0,
		"a":                                  1,
		"a{{# b }}c":                         1,
		"{{ 1 }}":                            2,
		"{{ .z }}a":                          4,
		"{{ add(1, .z) }}":                   5,
		"{{ .z and .z }}":                    4,
		"{{ .l and .z }}":                    6,
		"{{ .l or .z }}":                     4,
		"{{ not .z }}":                       4,
		"{{ 1 < 2 }}":                        4,
		"{{ .l[0] }}":                        5,
		"{{ default(1, .z) }}":               3,
		"{{ default(0, .z) }}":               5,
		"{{ fact(\"a\") }}":                  3,
		"{{ let x = 1 }}{{ $x }}":            4,
		"{{ if 1 }}{{ end }}":                3,
		"{{ if 1 }}a{{ else }}bc{{ end }}":   4,
		"{{ if 0 }}a{{ end }}":               2,
		"{{ if 0 }}a{{ else }}{{ end }}":     2,
		"{{ if 0 }}a{{ else }}b{{ end }}":    4,
		"{{ if 0 }}{{ else if 0 }}{{ end }}": 5,
		"{{ if 0 }}{{ else if 1 }}{{ end }}": 6,
		"{{ with 1 }}{{ end }}":              3,
		"{{ with 0 }}a{{ else }}b{{ end }}":  4,
		"{{ with 0 }}a{{ end }}":             2,
		"{{ each x in .l }}{{ end }}":        5,
		"{{ each x in .l }}a{{ end }}":       7,
		"{{ each x in .l }}{{ $x }}{{ else }}a{{ end }}": 9,
		"{{ each x in nil }}a{{ end }}":                  2,
		"{{ each x in nil }}a{{ else }}b{{ end }}":       4,
		"{{ call \"c\" 1 }}":                             5, // the node, its expression, two nodes and the dot
	} {
		if got := stepsOf(t, text, dot); got != want {
			t.Errorf("%s: %d steps, want %d", text, got, want)
		}
	}
}

// P5.10: each step is counted before what it stands for happens.
func TestLastSteps(t *testing.T) {
	fill := func(n int) api.Value { return table("fill", listOf(many(tmpl.MaxSteps-3-n, null())...)) }
	for _, c := range []struct {
		text string
		left int // steps for this text
		e    api.Errno
	}{
		{"{{ $x }}", 2, api.ErrName},
		{"{{ $x }}", 1, api.ErrLarge},
		{"{{ div(1, 0) }}", 4, api.ErrRange},
		{"{{ div(1, 0) }}", 3, api.ErrLarge},
		{"{{ each x in 1 }}{{ end }}", 2, api.ErrKind},
		{"{{ if 1 }}{{ $x }}{{ end }}", 5, api.ErrName},
		{"{{ if 1 }}{{ $x }}{{ end }}", 4, api.ErrLarge},
		{"{{ if 1 }}{{ end }}{{ $x }}", 3, api.ErrLarge},
		{"{{ if 0 }}{{ else }}{{ end }}{{ $x }}", 4, api.ErrName},
		{"a", 1, api.OK},
		{"a", 0, api.ErrLarge},
		{"{{ if 1 }}{{ end }}", 2, api.ErrLarge},
		{"{{ call \"x\" $x }}", 2, api.ErrName},
		{"{{ call \"x\" $x }}", 1, api.ErrLarge},
	} {
		x, e := tmpl.Run(set("x", "{{ each z in .fill }}{{ end }}"+c.text), "x", fill(c.left), nil)
		if e != c.e || e != api.OK && show(x) != show(tmpl.Result{}) {
			t.Errorf("%s with %d steps left: error %d, want %d", c.text, c.left, e, c.e)
		}
	}
}

// P5.10: how many bytes all pieces can have.
func TestRunOut(t *testing.T) {
	half := strings.Repeat("a", api.MaxOut/2)
	dot := table("h", str(half), "l", listOf(str(half), str(half)), "q", str(strings.Repeat("<", api.MaxOut/6)), "s", safe(half+half), "t", str("a"))
	for text, want := range map[string]api.Errno{
		"{{ .h }}{{ .h }}":                           api.OK,
		"{{ .h }}{{ .h }}{{ nil }}":                  api.OK,
		"{{ .h }}{{ .h }}a":                          api.ErrLarge,
		"{{ .h }}{{ .h }}{{ .t }}":                   api.ErrLarge,
		"{{ .s }}":                                   api.OK,
		"a{{ .s }}":                                  api.ErrLarge,
		"{{ .h }}{{ .h }}{{ .t }}{{ $x }}":           api.ErrLarge,
		"{{ .h }}{{ .h }}{{ $x }}a":                  api.ErrName,
		"{{ .q }}":                                   api.OK,
		"{{ .q }}{{ .q }}":                           api.ErrLarge,
		"<script> {{ .q }} </script>":                api.ErrLarge,
		"<script> {{ .h }} </script>{{ .h }}":        api.ErrLarge,
		"<script> {{ .l }} </script>":                api.ErrLarge,
		"<a href=\"{{ .s }}\">":                      api.ErrLarge,
		"{{ let x = list(.h, .h) }}":                 api.OK,
		"{{ let x = join(.l, \"\") }}":               api.OK,
		"{{ let x = join(.l, \"a\") }}":              api.ErrLarge,
		"<script> {{ list(.l, fact(1)) }} </script>": api.ErrLarge,
		"{{ let a = list(.s, .s) }}" + strings.Repeat("{{ let a = list($a, $a) }}", 11) + "<script> {{ $a }} </script>": api.ErrLarge,
		"{{ let a = list(.s, .s) }}" + strings.Repeat("{{ let a = list($a, $a) }}", 12) + "<script> {{ $a }} </script>": api.ErrLarge,
		"{{ let a = list(.s, .s) }}" + strings.Repeat("{{ let a = list($a, $a) }}", 13) + "{{ $x }}":                    api.ErrLarge,
	} {
		x, e := tmpl.Run(set("x", text), "x", dot, nil)
		if e != want || e != api.OK && show(x) != show(tmpl.Result{}) {
			t.Errorf("%s: error %d, want %d", text, e, want)
		}
	}
	// What cannot be quoted at all comes before what is too large.
	big := table("a", listOf(str(half+half), fact("f")), "b", table("k", str(half+half), "l", nested(12, null())), "c", listOf(str(half+half), day(-1)))
	for text, want := range map[string]api.Errno{"a": api.ErrKind, "b": api.ErrDeep, "c": api.ErrRange} {
		if _, e := tmpl.Run(set("x", "<script> {{ ."+text+" }} </script>"), "x", big, nil); e != want {
			t.Errorf("a large value that cannot be quoted: error %d, want %d", e, want)
		}
	}
}

// tags reads HTML as browsers do, in short: elements with the names of their attributes, comments and scripts.
func tags(s string) []string {
	var l []string
	for s != "" {
		at := strings.IndexByte(s, '<')
		if at < 0 {
			break
		}
		s = s[at:]
		switch {
		case strings.HasPrefix(s, "<!--"):
			comment, rest, _ := strings.Cut(s[4:], "-->")
			l, s = append(l, "comment "+comment), rest
		case len(s) > 1 && (s[1] == '!' || s[1] == '?'):
			_, rest, _ := strings.Cut(s, ">")
			l, s = append(l, "declaration"), rest
		case len(s) > 1 && isLetter(s[1]), len(s) > 2 && s[1] == '/' && isLetter(s[2]):
			var tag string
			tag, s = oneTag(s)
			l = append(l, tag)
			name, _, _ := strings.Cut(tag, " ")
			if name == "script" || name == "style" || name == "title" || name == "textarea" {
				end := strings.Index(small(s), "</"+name)
				if end < 0 {
					end = len(s)
				}
				if name == "script" {
					l = append(l, "script of "+constants(s[:end]))
				}
				s = s[end:]
			}
		default:
			s = s[1:]
		}
	}
	return l
}

// small is a string with small letters; unlike strings.ToLower it leaves all other bytes.
func small(s string) string {
	b := []byte(s)
	for i, c := range b {
		if c >= 'A' && c <= 'Z' {
			b[i] += 'a' - 'A'
		}
	}
	return string(b)
}

func isLetter(c byte) bool { return c >= 'a' && c <= 'z' || c >= 'A' && c <= 'Z' }

// oneTag reads a tag: its name and those of its attributes, and what comes after it.
func oneTag(s string) (tag, rest string) {
	end := strings.IndexAny(s, " \n\t/>")
	if s[1] == '/' {
		end = 2 + strings.IndexAny(s[2:]+">", " \n\t/>")
	}
	if end < 0 {
		end = len(s)
	}
	tag, s = small(s[1:end]), s[end:]
	for s != "" && s[0] != '>' {
		if strings.IndexByte(" \n\t/", s[0]) >= 0 {
			s = s[1:]
			continue
		}
		end := strings.IndexAny(s+">", " \n\t/>=")
		tag, s = tag+" "+s[:end], s[end:]
		if strings.HasPrefix(s, "=\"") {
			_, s, _ = strings.Cut(s[2:], "\"")
		} else if strings.HasPrefix(s, "=") {
			tag, s = tag+" unquoted", s[1:]
		}
	}
	return tag, strings.TrimPrefix(s, ">")
}

// constants is a script in which each constant is 0.
func constants(s string) string {
	var b strings.Builder
	for i := 0; i < len(s); {
		for n := len(s); ; n-- {
			if n == i {
				b.WriteByte(s[i])
				i++
				break
			}
			if _, e := tmpl.Unquote(s[i:n]); e == api.OK {
				b.WriteByte('0')
				i = n
				break
			}
		}
	}
	return b.String()
}

// randomTemplate is a template that may be right, for a table of strings.
func randomTemplate(r *rand.Rand, deep int) string {
	var b strings.Builder
	inserts := []string{"{{ .a }}", "{{ .b }}", "{{ fact(.a) }}", "{{ default(.c, .a) }}"}
	insert := func() string { return inserts[r.Intn(len(inserts))] }
	value := func() string {
		return []string{"", "x", insert(), "/" + insert(), insert() + "/" + insert(), "x" + insert(), "{{ if .a }}" + insert() + "{{ else }}y{{ end }}", insert() + insert()}[r.Intn(8)]
	}
	for range 1 + r.Intn(4) {
		switch n := r.Intn(12); {
		case n < 2:
			b.WriteString([]string{"a", " < ", "&amp;", "> \"", "'", "<", "-->"}[r.Intn(7)])
		case n < 4:
			b.WriteString(insert())
		case n < 6:
			name := []string{"title", "href", "src", "data-x", "onclick", "style", "ID"}[r.Intn(7)]
			b.WriteString("<p " + name + "=\"" + value() + "\" b>")
		case n == 6:
			b.WriteString("<title>" + value() + "</title>")
		case n == 7:
			b.WriteString("<script>f( " + insert() + " , " + insert() + " )</script>")
		case n == 8:
			b.WriteString("<!-- " + []string{"x", insert(), "- >", "--!>"}[r.Intn(4)] + " -->")
		case n == 9 && deep > 0:
			b.WriteString("{{ if .b }}" + randomTemplate(r, deep-1) + "{{ else }}" + randomTemplate(r, deep-1) + "{{ end }}")
		case n == 10 && deep > 0:
			b.WriteString("{{ each x in .l }}{{ $x }}" + randomTemplate(r, deep-1) + "{{ end }}")
		default:
			b.WriteString([]string{"</p>", "<br/>", "<textarea>" + insert() + "</textarea>", "<style>p</style>", "<!doctype html>"}[r.Intn(5)])
		}
	}
	return b.String()
}

// P5.10: what is inserted changes neither elements, nor the names of attributes, nor comments and scripts.
func TestStructure(t *testing.T) {
	r := rand.New(rand.NewSource(7))
	hostile := []string{"", "a", "<b>", "</p>", "</script><b>", "</title><b>", "-->", "<!--", "\"><b x=\"", "\" onload=\"x", "'", "javascript:x", "//x", "&lt;", "\\", "\\\"", "`", "\n", "<", ">", "=", " ", "</", "\x00", "]]>", "{{", "x</textarea>", "\u2028", "\xff"}
	value := func() api.Value {
		s := ""
		for range r.Intn(3) {
			s += hostile[r.Intn(len(hostile))]
		}
		return str(s)
	}
	runs := 0
	for range 20_000 {
		text := randomTemplate(r, 2)
		for range r.Intn(3) { // what may be nearly right
			at, to := r.Intn(len(text)+1), r.Intn(len(text)+1)
			switch r.Intn(3) {
			case 0:
				text = text[:min(at, to)] + text[max(at, to):]
			case 1:
				text = text[:at] + string("<>\"/-! =x"[r.Intn(9)]) + text[at:]
			case 2:
				text = text[:at] + text[min(at, to):max(at, to)] + text[at:]
			}
			if text == "" {
				break
			}
		}
		if tmpl.Check(set("x", text)).E != api.OK {
			continue
		}
		dot := table("a", value(), "b", value(), "l", listOf(value(), value()))
		x, e := tmpl.Run(set("x", text), "x", dot, []api.Named{{Name: "a", Value: value()}})
		if e != api.OK {
			continue
		}
		runs++
		if got, want := tags(tmpl.String(x.Pieces)), tags(tmpl.Skeleton(x.Pieces)); show(got) != show(want) {
			t.Fatalf("%q\n%q\n%q\n%q\n%q", text, tmpl.String(x.Pieces), tmpl.Skeleton(x.Pieces), got, want)
		}
	}
	if runs < 5000 {
		t.Errorf("only %d runs", runs)
	}
}
