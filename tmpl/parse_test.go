package tmpl_test

import (
	"strings"
	"testing"

	"masthead/api"
	"masthead/tmpl"
)

// P5.1: a template as nodes.
func TestParse(t *testing.T) {
	for text, want := range map[string]string{
		"":                                   "",
		"a":                                  `"a"`,
		"a\n\tb\x80}} { {x}":                 `"a\n\tb\x80}} { {x}"`,
		"{{.}}":                              "insert(.)",
		"{{ \t\n.a\n }}":                     "insert(field a(.))",
		"a{{ . }}b{{ .c }}":                  `"a" insert(.) "b" insert(field c(.))`,
		"{{.}}{{.}}":                         "insert(.) insert(.)",
		"{{.}}}":                             `insert(.) "}"`,
		"{{\"}}\"}}":                         `insert("}}")`,
		"{{ \"a}}\" }}":                      `insert("a}}")`,
		"{{ \"a\\\"}}\\\\\" }}x":             `insert("a\"}}\\") "x"`,
		"{{ \"{{\" }}":                       `insert("{{")`,
		"{{# c }}":                           "",
		"a{{# c }}b":                         `"ab"`,
		"a{{ \n# c \"}}b\" }}":               `"ab\" }}"`,
		"a{{#}}b{{#}}{{# x}}c{{.}}{{#}}":     `"abc" insert(.)`,
		"{{#}}}":                             `"}"`,
		"{{# {{ . }}":                        "",
		"{{if .}}{{end}}":                    "if(.){}{}",
		"{{ if  .a }}b{{ end }}c":            `if(field a(.)){"b"}{} "c"`,
		"{{ if\n. }}b{{ else }}c{{ end }}":   `if(.){"b"}{"c"}`,
		"{{ if . }}{{ else }}{{ end }}":      "if(.){}{}",
		"{{ if 1 }}a{{ else if 2 }}b{{end}}": `if(1){"a"}{if(2){"b"}{}}`,
		"{{ if 1 }}a{{ else \t if 2 }}b{{ else if 3 }}c{{ else }}d{{ end }}e":             `if(1){"a"}{if(2){"b"}{if(3){"c"}{"d"}}} "e"`,
		"{{ if 1 }}a{{ else }}{{ if 2 }}b{{end}}{{end}}":                                  `if(1){"a"}{if(2){"b"}{}}`,
		"{{ if 1 }}a{{ else }}{{ if 2 }}b{{end}}c{{end}}":                                 `if(1){"a"}{if(2){"b"}{} "c"}`,
		"{{ if 1 }}{{ if 2 }}a{{ else }}b{{ end }}{{ else }}c{{ end }}":                   `if(1){if(2){"a"}{"b"}}{"c"}`,
		"{{ each x in . }}a{{ end }}":                                                     `each x(.){"a"}{}`,
		"{{ each  x_1\tin\n.a }}a{{ else }}b{{ end }}":                                    `each x_1(field a(.)){"a"}{"b"}`,
		"{{ with .a }}b{{ end }}":                                                         `with(field a(.)){"b"}{}`,
		"{{ with .a }}b{{ else }}c{{ end }}":                                              `with(field a(.)){"b"}{"c"}`,
		"{{ let x = 1 }}":                                                                 "let x(1)",
		"{{ let x  =  1 or 2 }}":                                                          "let x(or(1 2))",
		"{{ call \"a\" . }}":                                                              "call a(.)",
		"{{ call  \"a-b/0_c\"  1 < 2 }}":                                                  "call a-b/0_c(<(1 2))",
		"{{ with . }}{{ each x in . }}{{ if . }}a{{ end }}b{{ end }}c{{ end }}":           `with(.){each x(.){if(.){"a"}{} "b"}{} "c"}{}`,
		"{{ not .a }}{{ len(.) }}{{ .if_ }}{{ .in_a }}":                                   "insert(not(field a(.))) insert(func len(.)) insert(field if_(.)) insert(field in_a(.))",
		"{{ each abcdefghijklmnopqrst in . }}{{ $abcdefghijklmnopqrst }}{{# x }}{{ end}}": "each abcdefghijklmnopqrst(.){insert($abcdefghijklmnopqrst)}{}",
	} {
		l, at, e := tmpl.Parse(text)
		if at != 0 {
			t.Errorf("%q: position %d", text, at)
		}
		expect(t, text, dump(l), e, want, api.OK)
	}
}

// P5.1: what is wrong with a template, and where.
func TestParseErrors(t *testing.T) {
	deep := func(n int) string { return strings.Repeat("{{if .}}", n) }
	ends := func(n int) string { return strings.Repeat("{{end}}", n) }
	for _, c := range []struct {
		text string
		at   int
		e    api.Errno
	}{
		{wide(tmpl.MaxText), 0, api.OK},
		{wide(tmpl.MaxText + 1), 0, api.ErrLarge},
		{wide(tmpl.MaxText) + "\x01", 0, api.ErrLarge},
		{"a\x00", 0, api.ErrByte},
		{"{{ foo }}\x1f", 0, api.ErrByte},
		{"a\r", 0, api.ErrByte},
		{"a\x7f\x80\xff\t\n", 0, api.OK},
		{"a{{ . ", 1, api.ErrSyntax},
		{"a{{", 1, api.ErrSyntax},
		{"a{{ . }", 1, api.ErrSyntax},
		{"a{{ \" }}", 1, api.ErrSyntax},
		{"a{{ \"\\\" }}", 1, api.ErrSyntax},
		{"{{.}}{{ .", 5, api.ErrSyntax},
		{"a{{# c }", 1, api.ErrSyntax},
		{"a{{# c }}b{{# d", 10, api.ErrSyntax},
		{"{{ x }}{{# d", 0, api.ErrSyntax},
		{"{{}}", 0, api.ErrSyntax},
		{"a{{  }}", 1, api.ErrSyntax},
		{"{{{.}}", 0, api.ErrSyntax},
		{"{{ . . }}", 0, api.ErrSyntax},
		{"{{ if }}{{ end }}", 0, api.ErrSyntax},
		{"{{ if(.) }}{{ end }}", 0, api.ErrSyntax},
		{"{{ if.a }}{{ end }}", 0, api.ErrSyntax},
		{"{{ with }}{{ end }}", 0, api.ErrSyntax},
		{"{{ each }}{{ end }}", 0, api.ErrSyntax},
		{"{{ each x . }}{{ end }}", 0, api.ErrSyntax},
		{"{{ each x in }}{{ end }}", 0, api.ErrSyntax},
		{"{{ each X in . }}{{ end }}", 0, api.ErrSyntax},
		{"{{ each in in . }}{{ end }}", 0, api.ErrSyntax},
		{"{{ each x in(.) }}{{ end }}", 0, api.ErrSyntax},
		{"{{ each x of . }}{{ end }}", 0, api.ErrSyntax},
		{"{{ each abcdefghijklmnopqrstu in . }}{{ end }}", 0, api.ErrSyntax},
		{"{{ let }}", 0, api.ErrSyntax},
		{"{{ let x }}", 0, api.ErrSyntax},
		{"{{ let x = }}", 0, api.ErrSyntax},
		{"{{ let x=1 }}", 0, api.ErrSyntax},
		{"{{ let x =1 }}", 0, api.ErrSyntax},
		{"{{ let x == 1 }}", 0, api.ErrSyntax},
		{"{{ let 1x = 1 }}", 0, api.ErrSyntax},
		{"{{ let true = 1 }}", 0, api.ErrSyntax},
		{"{{ call }}", 0, api.ErrSyntax},
		{"{{ call \"a\" }}", 0, api.ErrSyntax},
		{"{{ call a . }}", 0, api.ErrSyntax},
		{"{{ call \"a . }}", 0, api.ErrSyntax},
		{"{{ call a\" . }}\" }}", 0, api.ErrSyntax},
		{"{{ call \"\"a\"\" . }}", 0, api.ErrSyntax},
		{"{{ call \"A\" . }}", 0, api.ErrSyntax},
		{"{{ call \"\" . }}", 0, api.ErrSyntax},
		{"{{ call \"a//b\" . }}", 0, api.ErrSyntax},
		{"{{ call \"a\". }}", 0, api.ErrSyntax},
		{"{{ else }}", 0, api.ErrSyntax},
		{"a{{ end }}", 1, api.ErrSyntax},
		{"{{ else if . }}", 0, api.ErrSyntax},
		{"{{ else if foo(.) }}", 0, api.ErrSyntax},
		{"{{ if . }}{{ end . }}", 10, api.ErrSyntax},
		{"{{ if . }}{{ else . }}{{ end }}", 10, api.ErrSyntax},
		{"{{ if . }}{{ else if }}{{ end }}", 10, api.ErrSyntax},
		{"{{ if . }}{{ else if(.) }}{{ end }}", 10, api.ErrSyntax},
		{"{{ if . }}{{ else end }}{{ end }}", 10, api.ErrSyntax},
		{"{{ if . }}{{ else }}{{ else }}{{ end }}", 20, api.ErrSyntax},
		{"{{ if . }}{{ else }}{{ else if . }}{{ end }}", 20, api.ErrSyntax},
		{"{{ if . }}{{ else if . }}{{ else }}{{ else }}{{ end }}", 35, api.ErrSyntax},
		{"{{ if . }}{{ else if . }}{{ end }}{{ end }}", 34, api.ErrSyntax},
		{"{{ if . }}{{ end }}{{ else }}", 19, api.ErrSyntax},
		{"{{ each x in . }}{{ else if . }}{{ end }}", 17, api.ErrSyntax},
		{"{{ with . }}{{ else if . }}{{ end }}", 12, api.ErrSyntax},
		{"{{ with . }}{{ else }}{{ else }}{{ end }}", 22, api.ErrSyntax},
		{"a{{ if . }}", 11, api.ErrSyntax},
		{"a{{ if . }}b", 12, api.ErrSyntax},
		{"a{{ if . }}{{# c }}", 19, api.ErrSyntax},
		{"{{ if . }}{{ else }}b", 21, api.ErrSyntax},
		{"{{ if . }}{{ else if . }}b", 26, api.ErrSyntax},
		{"{{ if . }}{{ if . }}{{ end }}", 29, api.ErrSyntax},
		{"{{ with . }}", 12, api.ErrSyntax},
		{"{{# c }}{{ if . }}{{ foo(.) }}", 18, api.ErrName},
		{"{{# c }}a{{# c }}{{ x }}{{# c }}", 17, api.ErrSyntax},
		{"a{{ foo(.) }}", 1, api.ErrName},
		{"a{{ len(., .) }}{{ x }}", 1, api.ErrName},
		{"{{ if len(1, 2) }}", 0, api.ErrName},
		{"{{ each x in foo(.) }}", 0, api.ErrName},
		{"{{ let x = foo(.) }}", 0, api.ErrName},
		{"{{ call \"x\" foo(.) }}", 0, api.ErrName},
		{"{{ if . }}{{ else if foo(.) }}{{ end }}", 10, api.ErrName},
		{"{{" + strings.Repeat("not ", 11) + ".}}", 0, api.OK},
		{"{{" + strings.Repeat("not ", 12) + ".}}", 0, api.ErrDeep},
		{"{{" + strings.Repeat("not ", 11) + "foo(.)}}", 0, api.ErrDeep},
		{"{{" + strings.Repeat("not ", 12) + "x}}", 0, api.ErrSyntax},
		{deep(12) + ends(12), 0, api.OK},
		{deep(13) + ends(13), 96, api.ErrDeep},
		{deep(12) + "{{if foo(.)}}", 96, api.ErrDeep},
		{deep(12) + "{{if x}}", 96, api.ErrSyntax},
		{deep(12) + "{{with .}}", 96, api.ErrDeep},
		{deep(12) + "{{each x in .}}", 96, api.ErrDeep},
		{deep(12) + "{{let x = .}}{{call \"a\" .}}{{.}}" + ends(12), 0, api.OK},
		{deep(12) + "{{else if .}}", 96, api.ErrDeep},
		{deep(12) + "{{else if x}}", 96, api.ErrSyntax},
		{deep(12) + "{{else if foo(.)}}", 96, api.ErrDeep},
		{deep(12) + ends(1) + "{{if .}}" + ends(12), 0, api.OK},
		{"{{if .}}" + strings.Repeat("{{else if .}}", 11) + "{{end}}", 0, api.OK},
		{"{{if .}}" + strings.Repeat("{{else if .}}", 12) + "{{end}}", 151, api.ErrDeep},
		{"{{with .}}{{else}}" + deep(11) + ends(12), 0, api.OK},
		{"{{with .}}{{else}}" + deep(12) + ends(13), 106, api.ErrDeep},
	} {
		l, at, e := tmpl.Parse(c.text)
		if at != c.at || e != c.e || e != api.OK && l != nil {
			t.Errorf("%s: error %d at %d, %d nodes; want %d at %d", short(c.text), e, at, len(l), c.e, c.at)
		}
	}
}

// P5.1: a template as large as can be, of nothing but actions.
func TestParseMany(t *testing.T) {
	l, _, e := tmpl.Parse(strings.Repeat("{{.}}", tmpl.MaxText/5))
	if e != api.OK || len(l) != tmpl.MaxText/5 {
		t.Errorf("%d nodes, error %d", len(l), e)
	}
	l, _, e = tmpl.Parse(strings.Repeat("a{{#}}", tmpl.MaxText/6))
	if e != api.OK || len(l) != 1 || len(l[0].Text) != tmpl.MaxText/6 {
		t.Errorf("%d nodes, error %d", len(l), e)
	}
}
