package tmpl_test

import (
	"fmt"
	"slices"
	"strings"
	"testing"

	"masthead/api"
	"masthead/tmpl"
)

// P5.6: the names of templates.
func TestTemplateNames(t *testing.T) {
	for name, want := range map[string]api.Errno{
		"a":                              api.OK,
		"a-z_09/-/_":                     api.OK,
		wide(20):                         api.OK,
		wide(20) + "/" + wide(20) + "/a": api.OK,
		wide(19) + "/" + wide(19) + "/" + wide(20): api.OK,
		wide(20) + "/" + wide(19) + "/" + wide(20): api.ErrName,
		strings.Repeat("a/", 29) + "aa":            api.OK,
		strings.Repeat("a/", 30) + "a":             api.ErrName,
		"":                                         api.ErrName,
		"/":                                        api.ErrName,
		"/a":                                       api.ErrName,
		"a/":                                       api.ErrName,
		"a//b":                                     api.ErrName,
		"A":                                        api.ErrName,
		"a.html":                                   api.ErrName,
		"a b":                                      api.ErrName,
		"aXb":                                      api.ErrName,
		"é":                                        api.ErrName,
		wide(21):                                   api.ErrName,
		"a/" + wide(21):                            api.ErrName,
		"a\x00":                                    api.ErrName,
	} {
		fault := tmpl.Fault{}
		if want != api.OK {
			fault = tmpl.Fault{Name: name, E: want}
		}
		if got := tmpl.Check(set(name, "")); got != fault {
			t.Errorf("%q: %+v", name, got)
		}
		l, _, e := tmpl.Parse("{{ call \"" + name + "\" . }}")
		if (e == api.OK) != (want == api.OK) || e == api.OK && l[0].Name != name {
			t.Errorf("call %q: error %d", name, e)
		}
	}
}

// P5.6: the first fault of a set.
func TestCheck(t *testing.T) {
	var many []tmpl.Source
	for i := range tmpl.MaxTemplates + 1 {
		many = append(many, tmpl.Source{Name: fmt.Sprintf("t%02d", i)})
	}
	strange := slices.Clone(many)
	strange[0].Name = "A"
	const calls = "{{ call \"b\" . }}"
	for _, c := range []struct {
		set  []tmpl.Source
		want tmpl.Fault
	}{
		{nil, tmpl.Fault{}},
		{many[:tmpl.MaxTemplates], tmpl.Fault{}},
		{many, tmpl.Fault{E: api.ErrLarge}},
		{strange, tmpl.Fault{E: api.ErrLarge}},
		{set("a", "", "a", ""), tmpl.Fault{Name: "a", E: api.ErrOrder}},
		{set("b", "", "a", ""), tmpl.Fault{Name: "a", E: api.ErrOrder}},
		{set("a", "", "a-b", "", "a/b", "", "ab", ""), tmpl.Fault{}},
		{set("a", "", "a/b", "", "a-b", ""), tmpl.Fault{Name: "a-b", E: api.ErrOrder}},
		{set("b", "", "A", ""), tmpl.Fault{Name: "A", E: api.ErrName}},
		{set("b", "a{{", "a", "", "A", ""), tmpl.Fault{Name: "b", At: 1, E: api.ErrSyntax}},
		{set("b", "<", "a", ""), tmpl.Fault{Name: "b", E: api.ErrContext}},
		{set("b", "a", "a", "{{", "A", ""), tmpl.Fault{Name: "a", E: api.ErrOrder}},
		{set("a", calls, "b", "<", "c", "{{"), tmpl.Fault{Name: "b", E: api.ErrContext}},
		{set("a", wide(tmpl.MaxText+1)), tmpl.Fault{Name: "a", E: api.ErrLarge}},
		{set("a", "a\x01"), tmpl.Fault{Name: "a", E: api.ErrByte}},
		{set("a", "<{{ foo(.) }}"), tmpl.Fault{Name: "a", At: 1, E: api.ErrName}},
		{set("a", "<p>{{# x }}{{"), tmpl.Fault{Name: "a", At: 11, E: api.ErrSyntax}},
		{set("a", "{{ call \"a\" . }}"), tmpl.Fault{}},
		{set("a", calls, "b", "{{ call \"a\" . }}"), tmpl.Fault{}},
		{set("a", calls), tmpl.Fault{Name: "a", E: api.ErrNone}},
		{set("a", "x{{# y }}{{ if . }}{{ else }}"+calls+"{{ end }}"), tmpl.Fault{Name: "a", At: 29, E: api.ErrNone}},
		{set("a", "{{ if . }}{{ call \"a\" . }}"+calls+"{{ else }}{{ call \"c\" . }}{{ end }}"), tmpl.Fault{Name: "a", At: 26, E: api.ErrNone}},
		{set("a", "", "b", "", "c", "{{ call \"d\" . }}", "e", "{{ call \"f\" . }}"), tmpl.Fault{Name: "c", E: api.ErrNone}},
		{set("a", calls, "c", "<"), tmpl.Fault{Name: "c", E: api.ErrContext}},
	} {
		if got := tmpl.Check(c.set); got != c.want {
			t.Errorf("%s: %+v, want %+v", short(show(c.set)), got, c.want)
		}
	}
}

// P5.7: the names of the templates that are called.
func TestCalls(t *testing.T) {
	for _, c := range []struct {
		text string
		want []string
		e    api.Errno
	}{
		{"", nil, api.OK},
		{"{{ \"call\" }}{{# call \"x\" . }}", nil, api.OK},
		{"{{ call \"b\" . }}<{{ call \"a/b\" . }}{{ call \"b\" 1 }}{{ call \"a-b\" 1 }}", []string{"a-b", "a/b", "b"}, api.OK},
		{"{{ if . }}{{ call \"d\" . }}{{ else if . }}{{ call \"c\" . }}{{ else }}{{ each x in . }}{{ call \"b\" . }}{{ end }}{{ end }}{{ with . }}{{ else }}{{ call \"a\" . }}{{ end }}", []string{"a", "b", "c", "d"}, api.OK},
		{"<p {{ call \"a\" . }}", []string{"a"}, api.OK},
		{"{{ call \"a\" . }}{{ end }}", nil, api.ErrSyntax},
		{"{{ call \"a\" foo(.) }}", nil, api.ErrName},
		{wide(tmpl.MaxText + 1), nil, api.ErrLarge},
		{"\x01", nil, api.ErrByte},
		{"{{" + strings.Repeat("not ", 12) + ".}}", nil, api.ErrDeep},
	} {
		got, e := tmpl.Calls(c.text)
		expect(t, c.text, got, e, c.want, c.e)
	}
}
