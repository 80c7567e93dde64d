package page_test

import (
	"fmt"
	"math/rand"
	"regexp"
	"slices"
	"strings"
	"testing"

	"masthead/api"
	"masthead/mark"
	"masthead/page"
	"masthead/tmpl"
)

// templates of many sorts.
func templates() []tmpl.Source {
	return set(
		"called", "({{ . }}{{ call \"deeper\" . }})",
		"deeper", "{{ fact(\"deep\") }}",
		"short/all", "{{ each x in .args }}[{{ $x }}]{{ end }}{{ .named.k }}|{{ .inner }}|{{ .page.title }}",
		"short/attr", "<i title=\"{{ .inner }}\">",
		"short/bad", "{{ upper(1) }}",
		"short/call", "{{ call \"called\" .named.k }}{{ .inner }}",
		"short/drop", "-",
		"short/hr", "<hr>",
		"short/worse", "{{ div(1, 0) }}",
	)
}

// hooks are templates of hooks, each with all that it is given.
func hooks() []tmpl.Source {
	return set(
		"hook/code", "code({{ .info }}|{{ .text }})",
		"hook/heading", "heading({{ .id }}|{{ .level }}|{{ .text }}|{{ .inner }})",
		"hook/image", "image({{ .dest }}|{{ .title }}|{{ .text }})",
		"hook/link", "link({{ .dest }}|{{ .title }}|{{ .inner }})",
	)
}

// host is at /a/, and has some facts.
func host(set []tmpl.Source) page.Host {
	return page.Host{Set: set, Address: "/a/", Facts: facts(
		"asset:bad", table("url", str("JavaScript:x")),
		"asset:i.png", table("url", str("/i\"<.png")),
		"asset:odd", table("url", str("/a\n\x01")),
		"deep", fact("deeper"),
		"deeper", str("d"),
		"page:/a/", table("title", str("<A>")),
		"page:/b/", table(),
		"page:/c/", str("no page"),
	)}
}

// P6.7: the HTML of a body, without hooks.
func TestRenderHTML(t *testing.T) {
	for body, want := range map[string]string{
		"":                "",
		"\n \n":           "",
		"a *b* & `<`":     "<p>a <em>b</em> &amp; <code>&lt;</code></p>\n",
		"# A\n# A\n> # A": "<h1 id=\"a\">A</h1>\n<h1 id=\"a-2\">A</h1>\n<blockquote>\n<h1 id=\"a-3\">A</h1>\n</blockquote>\n",
		"# A\n{< hr />}\n# A\n{< all >}\n## A\n{< /all >}\n# A 2":                     "<h1 id=\"a\">A</h1>\n<hr>\n<h1 id=\"a-2\">A</h1>\n|<h2 id=\"a-3\">A</h2>\n|&lt;A&gt;\n<h1 id=\"a-2-2\">A 2</h1>\n",
		"| a | b |\n| c | d |\n\n| e |":                                               "<table>\n<tr><th>a</th><th>b</th></tr>\n<tr><td>c</td><td>d</td></tr>\n</table>\n<table>\n<tr><th>e</th></tr>\n</table>\n",
		"- | a |\n- | b |\n  | c |":                                                   "<ul>\n<li>\n<table>\n<tr><th>a</th></tr>\n</table>\n</li>\n<li>\n<table>\n<tr><th>b</th></tr>\n<tr><td>c</td></tr>\n</table>\n</li>\n</ul>\n",
		"1. a\n\n- b\n\n7. c":                                                         "<ol>\n<li>\n<p>a</p>\n</li>\n</ol>\n<ul>\n<li>\n<p>b</p>\n</li>\n</ul>\n<ol start=\"7\">\n<li>\n<p>c</p>\n</li>\n</ol>\n",
		"```a&b c\n<x>\n```\n```\n</y>\n```":                                          "<pre><code class=\"language-a&amp;b\">&lt;x&gt;\n</code></pre>\n<pre><code>&lt;/y&gt;\n</code></pre>\n",
		"**a** \\\nb\nc\n\n---":                                                       "<p><strong>a</strong> <br>\nb\nc</p>\n<hr>\n",
		"[a](/b) [*c*](/d \"e&\") ![f](/g) ![h&](/i \"<\")":                           "<p><a href=\"/b\">a</a> <a href=\"/d\" title=\"e&amp;\"><em>c</em></a> <img src=\"/g\" alt=\"f\"> <img src=\"/i\" alt=\"h&amp;\" title=\"&lt;\"></p>\n",
		"[a](javascript:b) ![c](Data:d) [e](HTTPS:f) [g](mailto:h&) [i](/j:k) [l](m)": "<p><a href=\"#\">a</a> <img src=\"#\" alt=\"c\"> <a href=\"HTTPS:f\">e</a> <a href=\"mailto:h&amp;\">g</a> <a href=\"/j:k\">i</a> <a href=\"m\">l</a></p>\n",
		"[a](ref:) [b](ref:../b#c\") ![d](asset:i.png) [e](asset:bad) [f](ref:../c)":  "<p><a href=\"/a/\">a</a> [b](ref:../b#c&quot;) <img src=\"/i&quot;&lt;.png\" alt=\"d\"> <a href=\"#\">e</a> <a href=\"#\">f</a></p>\n",
		"[a](ref:../b#c&) ![d](ref:..) ![e](asset:odd) [f](asset:none)":               "<p><a href=\"/b/#c&amp;\">a</a> <img src=\"#\" alt=\"d\"> <img src=\"/a\n\x01\" alt=\"e\"> <a href=\"#\">f</a></p>\n",
		"{< hr />}":                         "<hr>\n",
		"{< all />}":                        "||&lt;A&gt;\n",
		"{< all >}\n{< /all >}":             "||&lt;A&gt;\n",
		"{< all x \"<y\" k=\"&\" k2=z />}":  "[x][&lt;y]&amp;||&lt;A&gt;\n",
		"{< all >}\n*b* <\n{< /all >}":      "|<p><em>b</em> &lt;</p>\n|&lt;A&gt;\n",
		"{< drop >}\na\n{< /drop >}\n# b":   "-\n<h1 id=\"b\">b</h1>\n",
		"{< drop >}\n# b\n{< /drop >}\n# b": "-\n<h1 id=\"b-2\">b</h1>\n",
		"{< attr >}\n[a](/b)\n{< /attr >}":  "<i title=\"&lt;p&gt;&lt;a href=&quot;/b&quot;&gt;a&lt;/a&gt;&lt;/p&gt;\n\">\n",
		"{< call k=\"*v*\" />}":             "(*v*d)\n",
		"{< call >}\n{< call k=a >}\nx\n\n{< hr />}\n{< /call >}\ny\n{< /call >}": "(d)(ad)<p>x</p>\n<hr>\n\n<p>y</p>\n\n",
		"a\n{< hr />}\nb\n{< hr />}\n{< hr />}\n- c":                              "<p>a</p>\n<hr>\n<p>b</p>\n<hr>\n<hr>\n<ul>\n<li>\n<p>c</p>\n</li>\n</ul>\n",
		"```\n{< hr />}\n```\n{< hr />}":                                          "<pre><code>{&lt; hr /&gt;}\n</code></pre>\n<hr>\n",
		"- a\n{< hr />}\n  b":                                                     "<ul>\n<li>\n<p>a</p>\n</li>\n</ul>\n<hr>\n<p>b</p>\n",
	} {
		c, e := page.Render(host(templates()), body, 0)
		expect(t, body, c.HTML, e, want, api.OK)
	}
}

// P6.7: what hooks write, in place of what mark does.
func TestRenderHooks(t *testing.T) {
	all := append(hooks(), templates()...)
	slices.SortFunc(all, func(a, b tmpl.Source) int { return strings.Compare(a.Name, b.Name) })
	for body, want := range map[string]string{
		"[a](/b) [*c*](/d \"e&\")":                        "<p>link(/b||a) link(/d|e&amp;|<em>c</em>)</p>\n",
		"![a](/b) ![c<](/d \"e&\")":                       "<p>image(/b||a) image(/d|e&amp;|c&lt;)</p>\n",
		"# A *b*\n## A <b>\n### ":                         "heading(a-b|1|A b|A <em>b</em>)\nheading(a-b-2|2|A &lt;b&gt;|A &lt;b&gt;)\nheading(section|3||)\n",
		"```go x\n<\n```\n```\n```":                       "code(go x|&lt;\n)\ncode(|)\n",
		"[a](javascript:b) ![c](x:y) [d](asset:bad)":      "<p>link(javascript:b||a) image(x:y||c) link(JavaScript:x||d)</p>\n",
		"[a](ref:#b) ![c](asset:i.png \"t\") [d](ref:x/)": "<p>link(/a/#b||a) image(/i&quot;&lt;.png|t|c) link(#||d)</p>\n",
		"[![a](asset:odd) *b*](ref:../b)":                 "<p>link(/b/||image(/a\n\x01||a) <em>b</em>)</p>\n",
		"> # [![a](/b) c](/d) e":                          "<blockquote>\nheading(a-c-e|1|a c e|link(/d||image(/b||a) c) e)\n</blockquote>\n",
		"- ```x\n  y\n  ```\n- # z":                       "<ul>\n<li>\ncode(x|y\n)\n</li>\n<li>\nheading(z|1|z|z)\n</li>\n</ul>\n",
		"| [a](b) | ![c](d) |\n| [e](f) | *[g](h)* |":     "<table>\n<tr><th>link(b||a)</th><th>image(d||c)</th></tr>\n<tr><td>link(f||e)</td><td><em>link(h||g)</em></td></tr>\n</table>\n",
		"# A\n{< all >}\n# A\n{< /all >}\n# [A](b)":       "heading(a|1|A|A)\n|heading(a-2|1|A|A)\n|&lt;A&gt;\nheading(a-3|1|A|link(b||A))\n",
		"a *b* **c** `d` \\\ne\n\n---\n\n1. f\n\n| g |":   "<p>a <em>b</em> <strong>c</strong> <code>d</code> <br>\ne</p>\n<hr>\n<ol>\n<li>\n<p>f</p>\n</li>\n</ol>\n<table>\n<tr><th>g</th></tr>\n</table>\n",
	} {
		c, e := page.Render(host(all), body, 0)
		expect(t, body, c.HTML, e, want, api.OK)
	}
	for name, want := range map[string]string{
		"hook/code":    "<h1 id=\"h-l-i\">h <a href=\"#\">l</a> <img src=\"/i\" alt=\"i\"></h1>\n*\n",
		"hook/heading": "*\n<pre><code class=\"language-x\">y\n</code></pre>\n",
		"hook/image":   "<h1 id=\"h-l-i\">h <a href=\"#\">l</a> *</h1>\n<pre><code class=\"language-x\">y\n</code></pre>\n",
		"hook/link":    "<h1 id=\"h-l-i\">h * <img src=\"/i\" alt=\"i\"></h1>\n<pre><code class=\"language-x\">y\n</code></pre>\n",
		"hook/none":    "<h1 id=\"h-l-i\">h <a href=\"#\">l</a> <img src=\"/i\" alt=\"i\"></h1>\n<pre><code class=\"language-x\">y\n</code></pre>\n",
		"link":         "<h1 id=\"h-l-i\">h <a href=\"#\">l</a> <img src=\"/i\" alt=\"i\"></h1>\n<pre><code class=\"language-x\">y\n</code></pre>\n",
	} {
		c, e := page.Render(host(set(name, "*")), "# h [l](x:y) ![i](/i)\n```x\ny\n```", 0)
		expect(t, name, c.HTML, e, want, api.OK)
	}
	c, e := page.Render(host(set("hook/heading", "<b>{{ .page.title }}</b>", "hook/link", "<a href=\"{{ .dest }}\">")), "# a\n[b](javascript:x) [c](/d e)[f](/é)", 0)
	expect(t, "contexts", c.HTML, e, "<b>&lt;A&gt;</b>\n<p><a href=\"#\"> [c](/d e)<a href=\"/%C3%A9\"></p>\n", api.OK)
}

// P6.7: the summary, in the same way but without hooks.
func TestRenderSummary(t *testing.T) {
	all := append(hooks(), set("short/x", "{{ .inner }}")...)
	for _, c := range []struct {
		body  string
		words int
		want  string
	}{
		{"", 9, ""},
		{"a b\n\nc\n\nd", 0, ""},
		{"a b\n\nc\n\nd", 1, "<p>a b</p>\n"},
		{"a b\n\nc\n\nd", 2, "<p>a b</p>\n"},
		{"a b\n\nc\n\nd", 3, "<p>a b</p>\n<p>c</p>\n"},
		{"a b\n\nc\n\nd", api.MaxBody, "<p>a b</p>\n<p>c</p>\n<p>d</p>\n"},
		{"a\n{< x />}\nb", 9, "<p>a</p>\n"},
		{"{< x />}\na", 9, ""},
		{"{< x >}\na\n{< /x >}\nb", 9, ""},
		{"\n\n{< x />}\na", 9, ""},
		{"\n\na\n{< x />}", 9, "<p>a</p>\n"},
		{"# A\n{< x />}\n# A", 9, "<h1 id=\"a\">A</h1>\n"},
		{"# [l](ref:../b \"t\") ![i](asset:i.png)\n> # l i\n```x\ny\n```", 9, "<h1 id=\"l-i\"><a href=\"/b/\" title=\"t\">l</a> <img src=\"/i&quot;&lt;.png\" alt=\"i\"></h1>\n<blockquote>\n<h1 id=\"l-i-2\">l i</h1>\n</blockquote>\n<pre><code class=\"language-x\">y\n</code></pre>\n"},
		{"[a](asset:bad) [b](ref:x) [c](x:y)", 9, "<p><a href=\"#\">a</a> <a href=\"#\">b</a> <a href=\"#\">c</a></p>\n"},
		{"| a |\n| b |", 1, "<table>\n<tr><th>a</th></tr>\n<tr><td>b</td></tr>\n</table>\n"},
	} {
		content, e := page.Render(host(all), c.body, c.words)
		expect(t, c.body, content.Summary, e, c.want, api.OK)
	}
}

// P6.7: the plain string, the contents and the words of all documents.
func TestRenderPlain(t *testing.T) {
	for _, c := range []struct {
		body, plain, contents string
		words                 int
	}{
		{"", "", "", 0},
		{"a *b*\n{< hr />}\nc", "a b\nc\n", "", 3},
		{"{< all \"x y\" k=\"# z\" />}", "", "", 0},
		{"# A b\n{< drop >}\n## A `b`\n{< all >}\n- ![c d](e)\n{< /all >}\n{< /drop >}\n| f | g |", "A b\nA b\nc d\nf\tg\n", "1 a-b A b, 2 a-b-2 A b", 8},
		{"a\n{< hr />}\n[b](ref:none)", "a\nb\n", "", 2},
	} {
		content, e := page.Render(host(templates()), c.body, 0)
		var entries []string
		for _, entry := range content.Contents {
			entries = append(entries, fmt.Sprint(entry.Level, " ", entry.Id, " ", entry.Text))
		}
		expect(t, c.body, []any{content.Plain, strings.Join(entries, ", "), content.Words}, e, []any{c.plain, c.contents, c.words}, api.OK)
	}
}

// P6.7: what has been read, in order, and what is broken.
func TestRenderReads(t *testing.T) {
	reading := set(
		"called", "{{ fact(\"f\").x }}",
		"hook/code", "{{ fact(\"code\") }}",
		"hook/heading", "{{ .page.title }}{{ call \"called\" nil }}",
		"hook/link", "{{ fact(\"link\") }}{{ fact(.dest) }}",
		"short/x", "{{ fact(\"x\") }}{{ .inner }}{{ .page.title }}{{ fact(.named.f) }}",
		"short/y", "{{ if .args[0] }}{{ call \"called\" nil }}{{ end }}",
	)
	for _, c := range []struct {
		body, bare, reads, broken string
	}{
		{"", "", "", ""},
		{"a *b* **c** `d`\n\n> - e\n\n---\n\n| f |", "", "", ""},
		{"[a](/b)", "template:hook/link", "template:hook/link link /b", ""},
		{"![a](/b)", "template:hook/image", "template:hook/image", ""},
		{"# a", "template:hook/heading", "template:hook/heading page:/a/ template:called f", ""},
		{"```\n```", "template:hook/code", "template:hook/code code", ""},
		{"[a](ref:../b)", "template:hook/link page:/b/", "template:hook/link page:/b/ link /b/", ""},
		{"[a](ref:x) [b](ref:../../..) [c](asset:) [a](ref:x)", "template:hook/link page:/a/x/ asset:", "template:hook/link page:/a/x/ link # asset:", "ref:x ref:../../.. asset: ref:x"},
		{"![a](asset:i.png) ![b](asset:none) ![c](ref:)", "template:hook/image asset:i.png asset:none page:/a/", "template:hook/image asset:i.png asset:none page:/a/", "asset:none"},
		{"[![a](asset:n)](ref:m)", "template:hook/link page:/a/m/ template:hook/image asset:n", "template:hook/link page:/a/m/ template:hook/image asset:n link #", "ref:m asset:n"},
		{"# [a](ref:../c) ![b](asset:bad)\n```\n```", "template:hook/heading template:hook/link page:/c/ template:hook/image asset:bad template:hook/code", "template:hook/heading template:hook/link page:/c/ link # template:hook/image asset:bad page:/a/ template:called f template:hook/code code", "ref:../c"},
		{"{< x />}", "template:short/x x page:/a/ ", "", ""},
		{"{< x >}\n![a](ref:)\n{< y 1 />}\n{< /x >}\n{< y />}\n![b](/c)", "template:hook/image page:/a/ template:short/y template:called f template:short/x x ", "", ""},
		{"{< y />}\n{< x f=g >}\n{< x f=h >}\n{< /x >}\n{< /x >}", "template:short/y template:short/x x page:/a/ h g", "", ""},
		{"{< y >}\n[a](ref:n)\n{< /y >}\n[b](ref:o)\n[a](ref:n)", "template:hook/link page:/a/n/ template:short/y page:/a/o/", "template:hook/link page:/a/n/ link # template:short/y page:/a/o/", "ref:n ref:o ref:n"},
		{"[a](javascript:x) [b](#) ![c](page:/b/)", "template:hook/link template:hook/image", "template:hook/link link javascript:x # template:hook/image", ""},
	} {
		if c.reads == "" {
			c.reads = c.bare
		}
		bare := slices.DeleteFunc(slices.Clone(reading), func(s tmpl.Source) bool { return strings.HasPrefix(s.Name, "hook/") })
		for i, templates := range [][]tmpl.Source{bare, reading} {
			content, e := page.Render(host(templates), c.body, 3)
			want := strings.Split([]string{c.bare, c.reads}[i], " ")
			if want[0] == "" {
				want = nil
			}
			if e != api.OK || !slices.Equal(content.Reads, want) || !slices.Equal(content.Broken, strings.Fields(c.broken)) {
				t.Errorf("%q: error %d\n got %q, broken %q\nwant %q, broken %q", c.body, e, content.Reads, content.Broken, want, c.broken)
			}
		}
	}
}

// P6.7: the errors, in their order.
func TestRenderErrors(t *testing.T) {
	deep := strings.Repeat(">", 13)
	one := func(l ...string) []tmpl.Source { return set(l...) }
	for _, c := range []struct {
		name, address string
		set           []tmpl.Source
		body          string
		words         int
		e             api.Errno
	}{
		{"nothing", "/", nil, "", 0, api.OK},
		{"no address", "", nil, "", 0, api.ErrPath},
		{"an address that is none", "/a", nil, "", 0, api.ErrPath},
		{"an address that is too long", long(201), nil, "", 0, api.ErrPath},
		{"the longest address", long(200), nil, "", 0, api.OK},
		{"an address before words", "a", nil, "", -1, api.ErrPath},
		{"few words", "/", nil, "", -1, api.ErrRange},
		{"many words", "/", nil, "", api.MaxBody + 1, api.ErrRange},
		{"most words", "/", nil, "", api.MaxBody, api.OK},
		{"words before a body", "/", nil, "\x01", -1, api.ErrRange},
		{"a body that is too long", "/", nil, wide(api.MaxBody + 1), 0, api.ErrLarge},
		{"a byte", "/", nil, "\x01", 0, api.ErrByte},
		{"a form", "/", nil, "{< A />}", 0, api.ErrSyntax},
		{"a form before a template", "/", nil, "{< x />}\n{< A />}", 0, api.ErrSyntax},
		{"one is open", "/", one("short/x", ""), "{< x >}", 0, api.ErrState},
		{"no template", "/", nil, "{< x />}", 0, api.ErrNone},
		{"another template", "/", one("short/x", "", "x", ""), "{< y />}", 0, api.ErrNone},
		{"no template inside", "/", one("short/x", ""), "{< x >}\n{< y />}\n{< /x >}", 0, api.ErrNone},
		{"a template before a document", "/", nil, deep + "\n{< x />}", 0, api.ErrNone},
		{"a template before the fault of a set", "/", one("short/x", "{{"), "{< y />}", 0, api.ErrNone},
		{"a document", "/", nil, deep, 0, api.ErrDeep},
		{"a document with too many nodes", "/", nil, strings.Repeat("# \n", api.MaxNodes+1), 0, api.ErrLarge},
		{"a document before a run", "/", templates(), "{< bad />}\n" + deep, 0, api.ErrDeep},
		{"a document before the fault of a set", "/", one("short/x", "{{"), "{< x />}\n" + deep, 0, api.ErrDeep},
		{"a fault of a set", "/", one("short/x", "{{"), "{< x />}", 0, api.ErrSyntax},
		{"a fault of a template that is not used", "/", one("a", "<p", "short/x", ""), "{< x />}", 0, api.ErrSyntax},
		{"a fault of a template after it", "/", one("short/x", "", "z", "{{ call \"none\" . }}"), "{< x />}", 0, api.ErrSyntax},
		{"templates in another order", "/", one("short/x", "", "a", ""), "{< x />}", 0, api.ErrSyntax},
		{"templates with one name", "/", one("short/x", "", "short/x", ""), "{< x />}", 0, api.ErrSyntax},
		{"a fault of a set without a run", "/", one("b", "{{", "a", "{{"), "a [b](c)", 0, api.OK},
		{"a fault of a set with a hook that is not used", "/", one("hook/link", "{{"), "a ![b](c)", 0, api.OK},
		{"a fault of a hook", "/", one("hook/link", "{{"), "a [b](c)", 0, api.ErrSyntax},
		{"a run", "/", templates(), "{< bad />}", 0, api.ErrKind},
		{"another run", "/", templates(), "{< worse />}", 0, api.ErrRange},
		{"a run before the next one", "/", templates(), "{< bad />}\n{< worse />}", 0, api.ErrKind},
		{"a run inside before it", "/", templates(), "{< bad >}\n{< worse />}\n{< /bad >}", 0, api.ErrRange},
		{"a run inside a shortcode", "/", templates(), "{< drop >}\n{< worse />}\n{< /drop >}", 0, api.ErrRange},
		{"a hook", "/", one("hook/link", "{{ upper(1) }}"), "a *[b](c)*", 0, api.ErrKind},
		{"a hook of what is inside before it", "/", one("hook/heading", "{{ upper(1) }}", "hook/link", "{{ div(1, 0) }}"), "# [b](c)", 0, api.ErrRange},
		{"a hook before the next one", "/", one("hook/code", "{{ upper(1) }}", "hook/image", "{{ div(1, 0) }}"), "```\n```\n![a](b)", 0, api.ErrKind},
		{"a hook in a shortcode before its run", "/", one("hook/code", "{{ upper(1) }}", "short/x", "{{ div(1, 0) }}"), "{< x >}\n```\n```\n{< /x >}", 0, api.ErrKind},
		{"a hook and the summary", "/", one("hook/code", "{{ upper(1) }}"), "```\n```", 9, api.ErrKind},
		{"an output of a run that is too large", "/", one("short/x", "{{ each x in split(\""+strings.Repeat(" ", 10)+"\", \" \") }}{{ upper(\""+wide(18_200)+"\") }}{{ end }}"), "{< x />}", 0, api.ErrLarge},
	} {
		content, e := page.Render(page.Host{Set: c.set, Address: c.address}, c.body, c.words)
		if e != c.e || e != api.OK && show(content) != show(page.Content{}) {
			t.Errorf("%s: %s, error %d; want %d", c.name, short(show(content)), e, c.e)
		}
	}
	for body, want := range bodyErrors() {
		if _, e := page.Render(host(set("short/a", "", "short/x", "")), body, 0); e != want {
			t.Errorf("%s: error %d; want %d", short(body), e, want)
		}
	}
}

// P6.7: HTML has at most MaxOut bytes in all; what does not come to it has no limit.
func TestRenderLarge(t *testing.T) {
	long := wide(api.MaxOut)
	h := func(url string, l ...string) page.Host {
		return page.Host{Set: set(l...), Address: "/", Facts: facts("asset:u", table("url", str(url)), "x", str(long))}
	}
	frame := len("<p><a href=\"\">a</a></p>\n")
	for _, c := range []struct {
		name, body string
		h          page.Host
		size       int
		e          api.Errno
	}{
		{"just not too large", "[a](asset:u)", h(long[frame:]), api.MaxOut, api.OK},
		{"too large", "[a](asset:u)", h(long[frame-1:]), 0, api.ErrLarge},
		{"just not too large together", "{< y />}\n[a](asset:u)\n{< y />}", h(long[frame+4:], "short/y", "-"), api.MaxOut, api.OK},
		{"too large together", "{< y />}\n[a](asset:u)\n{< y />}", h(long[frame+3:], "short/y", "-"), 0, api.ErrLarge},
		{"too large with its line feed", "{< y />}", h("", "short/y", "{{ fact(\"x\") }}"), 0, api.ErrLarge},
		{"too large inside", "{< y >}\n[a](asset:u)\n{< /y >}", h(long, "short/y", "{{ .inner }}"), 0, api.ErrLarge},
		{"too large inside, and left out", "{< y >}\n[a](asset:u)\n{< /y >}", h(long, "short/y", "{{ len(.inner) }}"), len("200024\n"), api.OK},
		{"too large in a hook, and left out", "# [a](asset:u)", h(long, "hook/heading", "{{ len(.inner) }}"), len("200017\n"), api.OK},
		{"a summary that is too large", "[a](asset:u)", h(long, "hook/link", "-"), len("<p>-</p>\n"), api.OK},
		{"a run before too large", "[a](asset:u)\n{< y />}", h(long, "short/y", "{{ upper(1) }}"), 0, api.ErrKind},
		{"too large many times", strings.Repeat("[a](asset:u) ", 1500), h(long[:10_000]), 0, api.ErrLarge},
	} {
		content, e := page.Render(c.h, c.body, 9)
		if e != c.e || len(content.HTML) != c.size {
			t.Errorf("%s: %d bytes, error %d; want %d, error %d", c.name, len(content.HTML), e, c.size, c.e)
		}
		if c.name == "a summary that is too large" && len(content.Summary) != frame+len(long) {
			t.Errorf("a summary of %d bytes", len(content.Summary))
		}
		if c.name == "too large inside, and left out" && content.HTML != "200024\n" {
			t.Errorf("%q", content.HTML)
		}
	}
}

// P6.7: without hooks random bodies are rendered as mark does it, with other Dests and with the ids of the body.
func TestRandomRender(t *testing.T) {
	r := rand.New(rand.NewSource(6))
	h := host(set("short/a", "<a>{{ .inner }}</a>", "short/b", "<b>{{ .inner }}</b>", "short/note", "<note>{{ .inner }}</note>"))
	for range 1500 {
		body := randomBody(r, 14)
		content, e := page.Render(h, body, 5)
		if e != api.OK {
			t.Fatalf("%q: error %d", body, e)
		}
		o := &other{h: h, ids: content.Contents}
		l := split(t, body)
		if want := o.parts(t, l); content.HTML != want {
			t.Fatalf("%q\n got %q\nwant %q", body, content.HTML, want)
		}
		want := ""
		if len(l) > 0 && l[0].Name == "" {
			first, _, _ := mark.Summary(document(t, l[0].Text), 5)
			o.ids = content.Contents
			want = o.document(t, first)
		}
		if content.Summary != want {
			t.Fatalf("%q\n got summary %q\nwant %q", body, content.Summary, want)
		}
	}
}

// other renders bodies with mark, document by document.
type other struct {
	h   page.Host
	ids []mark.Entry
}

func (o *other) parts(t *testing.T, l []page.Part) string {
	s := ""
	for _, p := range l {
		switch {
		case p.Name == "":
			s += o.document(t, document(t, p.Text))
		default:
			s += "<" + p.Name + ">" + o.parts(t, p.Inner) + "</" + p.Name + ">\n"
		}
	}
	return s
}

func (o *other) document(t *testing.T, doc []mark.Node) string {
	t.Helper()
	dests, e := mark.Targets(doc)
	for i, dest := range dests {
		dests[i], _, _ = page.Target(o.h, dest)
	}
	doc, e2 := mark.Relink(doc, dests)
	own, e3 := mark.Ids(doc)
	for i := range own {
		own[i] = o.ids[i].Id
	}
	o.ids = o.ids[len(own):]
	s, e4 := mark.Render(doc, own)
	if e != api.OK || e2 != api.OK || e3 != api.OK || e4 != api.OK {
		t.Fatalf("errors %d, %d, %d, %d", e, e2, e3, e4)
	}
	return s
}

// P6.7: with hooks that write all that they are given, random bodies are what mark makes of them with these elements written in another way.
func TestRandomHooks(t *testing.T) {
	elements := []struct{ name, element, with string }{
		{"hook/code", "<pre><code(?: class=\"language-([^\"]*)\")?>([^<]*)</code></pre>", "code($1|$2)"},
		{"hook/heading", "<h(\\d) id=\"([^\"]*)\">((?s:.*?))</h\\d>", "heading($1|$2|$3)"},
		{"hook/image", "<img src=\"([^\"]*)\" alt=\"([^\"]*)\"(?: title=\"([^\"]*)\")?>", "image($1|$3|$2)"},
		{"hook/link", "<a href=\"([^\"]*)\"(?: title=\"([^\"]*)\")?>((?s:.*?))</a>", "link($1|$2|$3)"},
	}
	all := hooks()
	all[1].Text = "heading({{ .level }}|{{ .id }}|{{ .inner }})"
	r := rand.New(rand.NewSource(7))
	for range 1500 {
		h := page.Host{Address: "/a/", Facts: host(nil).Facts, Set: set("short/a", "{{ .inner }}", "short/b", "{{ .inner }}", "short/note", "{{ .inner }}")}
		body := randomBody(r, 14)
		content, e := page.Render(h, body, 5)
		want := content.HTML
		var some []tmpl.Source
		for i, source := range all {
			if r.Intn(2) == 0 {
				some = append(some, source)
				want = regexp.MustCompile(elements[i].element).ReplaceAllString(want, elements[i].with)
			}
		}
		h.Set = append(some, h.Set...)
		hooked, e2 := page.Render(h, body, 5)
		// The info of a fence is its first word in a class alone.
		got := strings.ReplaceAll(hooked.HTML, "code(go x|", "code(go|")
		if e != api.OK || e2 != api.OK || got != want {
			t.Fatalf("%q with %+v\n got %q, error %d\nwant %q, error %d", body, some, got, e2, want, e)
		}
		if hooked.Summary != content.Summary || hooked.Plain != content.Plain || hooked.Words != content.Words || show(hooked.Contents) != show(content.Contents) || show(hooked.Broken) != show(content.Broken) {
			t.Fatalf("%q with %+v\n%+v\n%+v", body, some, hooked, content)
		}
	}
}

// P6.7: a run comes to all templates that are called, whatever is in the rest of the set.
func TestRenderCalls(t *testing.T) {
	h := host(set(
		"a", "a{{ call \"c\" . }}{{ call \"b\" . }}",
		"b", "b{{ if .named.k }}{{ call \"d\" . }}{{ end }}",
		"c", "c{{ with .inner }}{{ call \"b\" nil }}{{ end }}",
		"d", "d{{ call \"b\" nil }}",
		"hook/link", "{{ call \"l/m\" . }}",
		"l/m", "{{ .dest }}",
		"ring", "{{ call \"ring\" . }}",
		"short/x", "{{ call \"a\" . }}",
		"short/y", "{{ call \"a\" nil }}{{ call \"c\" . }}",
		"z", "{{ call \"short/x\" . }}",
	))
	body := "{< x k=1 />}\n{< y >}\n[a](/b)\n{< /y >}\n{< x >}\n{< /x >}\n[c](/d)"
	content, e := page.Render(h, body, 0)
	expect(t, body, content.HTML, e, "acbdb\nacbcb\nacb\n<p>/d</p>\n", api.OK)
	var want []string
	for _, name := range strings.Fields("short/x a c b d hook/link l/m short/y") {
		want = append(want, "template:"+name)
	}
	expect(t, "reads", content.Reads, e, want, api.OK)
}

// The example of the chapter, and what P6.7 says of what a run gives: it is no markup.
func TestRenderExample(t *testing.T) {
	body := lines("a", `{< note "x" k="y" >}`, "b", "{< /note >}", "{< hr />}")
	h := page.Host{Address: "/", Set: set("short/hr", "<hr>", "short/note", "<div class=\"{{ .named.k }}\">{{ .inner }}</div>")}
	content, e := page.Render(h, body, 1)
	expect(t, body, content, e, page.Content{HTML: "<p>a</p>\n<div class=\"y\"><p>b</p>\n</div>\n<hr>\n", Summary: "<p>a</p>\n", Plain: "a\nb\n", Words: 2, Reads: []string{"template:short/note", "template:short/hr"}}, api.OK)
	content, e = page.Render(page.Host{Address: "/", Set: set("short/m", "# {{ .named.k }} [x](ref:y) {< m />}")}, "{< m k=\"*a*\" />}", 1)
	expect(t, "markup", content, e, page.Content{HTML: "# *a* [x](ref:y) {< m />}\n", Reads: []string{"template:short/m"}}, api.OK)
}

// P6.7: nothing else than what is read counts.
func TestRenderDepends(t *testing.T) {
	r := rand.New(rand.NewSource(8))
	for range 500 {
		h := host(set("hook/image", "{{ .dest }}", "short/a", "{{ .inner }}", "short/b", "{{ .page.title }}", "short/note", "{{ fact(\"deep\") }}"))
		body := randomBody(r, 10)
		content, e := page.Render(h, body, 3)
		if e != api.OK {
			t.Fatalf("%q: error %d", body, e)
		}
		h.Facts = slices.DeleteFunc(h.Facts, func(f api.Named) bool { return !slices.Contains(content.Reads, f.Name) })
		less, e := page.Render(h, body, 3)
		expect(t, body, less, e, content, api.OK)
	}
}
