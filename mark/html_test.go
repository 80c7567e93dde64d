package mark_test

import (
	"strings"
	"testing"

	"masthead/api"
	"masthead/mark"
)

// expectHTML checks the HTML of a document.
func expectHTML(t *testing.T, want string, l ...mark.Node) {
	t.Helper()
	s, e := mark.HTML(l)
	if e != api.OK || s != want {
		t.Errorf("HTML of %s:\n got %q, error %d\nwant %q", show(l), s, e, want)
	}
}

// P1.9.
func TestEscape(t *testing.T) {
	for s, want := range map[string]string{
		"":               "",
		"a&b":            "a&amp;b",
		"<>":             "&lt;&gt;",
		"\"'":            "&quot;'",
		"&amp;":          "&amp;amp;",
		"\x00\n\t\x7f":   "\x00\n\t\x7f",
		"\xff\xc3\xb6":   "\xff\xc3\xb6",
		"a<b>\"c\"&d;`*": "a&lt;b&gt;&quot;c&quot;&amp;d;`*",
	} {
		if got := mark.Escape(s); got != want {
			t.Errorf("Escape(%q) = %q, want %q", s, got, want)
		}
		if back := mark.Unescape(want); back != s {
			t.Errorf("Unescape(%q) = %q, want %q", want, back, s)
		}
	}
	for b := range 256 {
		s := string([]byte{byte(b), 'x', byte(b)})
		if got := mark.Unescape(mark.Escape(s)); got != s {
			t.Errorf("Unescape of Escape(%q) = %q", s, got)
		}
		if strings.IndexByte("&<>\"", byte(b)) < 0 && mark.Escape(s) != s {
			t.Errorf("Escape(%q) = %q", s, mark.Escape(s))
		}
	}
}

// P1.9.
func TestUnescape(t *testing.T) {
	for s, want := range map[string]string{
		"":                         "",
		"a":                        "a",
		"&amp;&lt;&gt;&quot;&#39;": "&<>\"'",
		"&amp;lt;":                 "&lt;",
		"&amp;amp;":                "&amp;",
		"&amp;#39;":                "&#39;",
		"&&amp;":                   "&&",
		"&amp":                     "&amp",
		"&lt":                      "&lt",
		"&lt &gt &quot &amp &#39 ": "&lt &gt &quot &amp &#39 ",
		"&LT;":                     "&LT;",
		"&#039;":                   "&#039;",
		"&#39":                     "&#39",
		"&#x27;":                   "&#x27;",
		"&apos;":                   "&apos;",
		"&nbsp;":                   "&nbsp;",
		"&;lt;":                    "&;lt;",
		"&l&lt;t;":                 "&l<t;",
		"<>\"'":                    "<>\"'",
	} {
		if got := mark.Unescape(s); got != want {
			t.Errorf("Unescape(%q) = %q, want %q", s, got, want)
		}
	}
}

// P1.10: blocks.
func TestHTMLBlocks(t *testing.T) {
	expectHTML(t, "")
	expectHTML(t, "<p>a</p>\n<hr>\n", text("a"), rule())
	expectHTML(t, "<h1 id=\"a-b\">A <em>b</em></h1>\n<h6 id=\"section\"></h6>\n", heading(1, str("A "), emph(str("b"))), heading(6))
	expectHTML(t, "<h2 id=\"a\">a</h2>\n<h3 id=\"a-2\">a</h3>\n<h4 id=\"a-3\">&lt;a&gt;</h4>\n", heading(2, str("a")), heading(3, str("a")), heading(4, str("<a>")))
	expectHTML(t, "<h5 id=\"\xc3\xb6\">\xc3\xb6</h5>\n", heading(5, str("\xc3\xb6")))
	expectHTML(t, "<pre><code></code></pre>\n", fence("", ""))
	expectHTML(t, "<pre><code>a\n &lt;b&gt;\n</code></pre>\n", fence("", "a\n <b>\n"))
	expectHTML(t, "<pre><code class=\"language-go\">a\n</code></pre>\n", fence("go", "a\n"))
	expectHTML(t, "<pre><code class=\"language-go\"></code></pre>\n", fence("go x y", ""))
	expectHTML(t, "<pre><code class=\"language-a\"></code></pre>\n", fence("a\tb", ""))
	expectHTML(t, "<pre><code class=\"language-xml\"></code></pre>\n", fence("xml", ""))
	expectHTML(t, "<pre><code class=\"language-&quot;&amp;&lt;\"></code></pre>\n", fence("\"&< >", ""))
	expectHTML(t, "<pre><code class=\"language-\"></code></pre>\n", fence(" a", ""))
	expectHTML(t, "<blockquote>\n<p>a</p>\n<hr>\n</blockquote>\n", quote(text("a"), rule()))
	expectHTML(t, "<blockquote>\n</blockquote>\n", quote())
	expectHTML(t, "<p></p>\n", para())
}

// P1.10: lists and tables.
func TestHTMLListsAndTables(t *testing.T) {
	a := item(text("a"))
	expectHTML(t, "<ul>\n<li>\n<p>a</p>\n</li>\n<li>\n</li>\n</ul>\n", list(-1, a, item()))
	expectHTML(t, "<ol>\n<li>\n<p>a</p>\n</li>\n</ol>\n", list(1, a))
	expectHTML(t, "<ol start=\"0\">\n<li>\n<p>a</p>\n</li>\n</ol>\n", list(0, a))
	expectHTML(t, "<ol start=\"2\">\n<li>\n<p>a</p>\n</li>\n</ol>\n", list(2, a))
	expectHTML(t, "<ol start=\"9999\">\n</ol>\n", list(9999))
	expectHTML(t, "<ul>\n<li>\n<ol>\n<li>\n<p>a</p>\n</li>\n</ol>\n<hr>\n</li>\n</ul>\n", list(-1, item(list(1, a), rule())))
	expectHTML(t, "<table>\n</table>\n", table())
	expectHTML(t, "<table>\n<tr></tr>\n</table>\n", table(row()))
	expectHTML(t, "<table>\n<tr><th>a</th><th></th></tr>\n<tr><td><em>b</em></td></tr>\n<tr><td>c</td></tr>\n</table>\n", table(row(cell(str("a")), cell()), row(cell(emph(str("b")))), row(cell(str("c")))))
	expectHTML(t, "<table>\n<tr><th>a</th></tr>\n</table>\n<table>\n<tr><th>b</th></tr>\n</table>\n", table(row(cell(str("a")))), table(row(cell(str("b")))))
}

// P1.10: inlines.
func TestHTMLInlines(t *testing.T) {
	expectHTML(t, "<p>a &lt;b&gt; &amp; &quot;c&quot; '</p>\n", text("a <b> & \"c\" '"))
	expectHTML(t, "<p>a\nb<br>\nc</p>\n", para(str("a"), soft(), str("b"), hard(), str("c")))
	expectHTML(t, "<p><em>a<strong>b</strong></em><strong></strong><code>&lt;*&gt;</code></p>\n", para(emph(str("a"), strong(str("b"))), strong(), code("<*>")))
	expectHTML(t, "<p><a href=\"b\">a</a></p>\n", para(link("b", "", str("a"))))
	expectHTML(t, "<p><a href=\"b?c&amp;d\" title=\"&lt;&quot;\"><em>a</em><img src=\"x\" alt=\"y\"></a></p>\n", para(link("b?c&d", "<\"", emph(str("a")), image("x", "", "y"))))
	expectHTML(t, "<p><img src=\"&lt;\" alt=\"\"></p>\n", para(image("<", "", "")))
	expectHTML(t, "<p><img src=\"a\" alt=\"&quot;b&amp;\" title=\"c&gt;\"></p>\n", para(image("a", "c>", "\"b&")))
	expectHTML(t, "<p><a href=\"\"></a></p>\n", para(link("", "")))
}

// P1.10: schemes.
func TestHTMLSchemes(t *testing.T) {
	for dest, want := range map[string]string{
		"http://a":             "http://a",
		"https://a":            "https://a",
		"mailto:a@b":           "mailto:a@b",
		"HTTP:a":               "HTTP:a",
		"hTTps:a":              "hTTps:a",
		"MailTo:a":             "MailTo:a",
		"MAILTO:a":             "MAILTO:a",
		"javascript:alert":     "#",
		"JaVaScRiPt:x":         "#",
		"data:text/html,x":     "#",
		"ftp://a":              "#",
		"http2:a":              "#",
		"xhttp:a":              "#",
		"htt:a":                "#",
		"mailt\xc3\xb6:a":      "#",
		"ref:a":                "#",
		"a:b:c":                "#",
		"http":                 "http",
		"a":                    "a",
		"/a:b":                 "/a:b",
		"a/b:c":                "a/b:c",
		"?a:b":                 "?a:b",
		"a?b:c":                "a?b:c",
		"#a:b":                 "#a:b",
		"a#javascript:b":       "a#javascript:b",
		"./javascript:b":       "./javascript:b",
		"//a":                  "//a",
		"#":                    "#",
		"javascript&colon;a":   "javascript&amp;colon;a",
		"javascript:/a?b#c":    "#",
		"http:javascript:a":    "http:javascript:a",
		"mailto:a?subject=b:c": "mailto:a?subject=b:c",
	} {
		expectHTML(t, "<p><a href=\""+want+"\">a</a></p>\n", para(link(dest, "", str("a"))))
		expectHTML(t, "<p><img src=\""+want+"\" alt=\"a\"></p>\n", para(image(dest, "", "a")))
	}
	expectHTML(t, "<p><a href=\"#\" title=\"javascript:b\">a</a></p>\n", para(link("javascript:b", "javascript:b", str("a"))))
}

// The example of 1.7.
func TestHTMLExample(t *testing.T) {
	expectHTML(t, "<p>a <em>b <strong>c</strong> d</em></p>\n", parsed(t, "a *b **c** d*")...)
	expectHTML(t, "<p><a href=\"#\">a</a></p>\n", parsed(t, "[a](javascript:x)")...)
}

// P1.10: the size of HTML and Render.
func TestHTMLLarge(t *testing.T) {
	const around = len("<p></p>\n")
	for _, c := range []struct {
		doc  []mark.Node
		want api.Errno
	}{
		{doc(text(strings.Repeat("a", api.MaxOut-around))), api.OK},
		{doc(text(strings.Repeat("a", api.MaxOut-around+1))), api.ErrLarge},
		{doc(text(strings.Repeat("&", (api.MaxOut-around)/5))), api.OK},
		{doc(text(strings.Repeat("&", (api.MaxOut-around)/5+1))), api.ErrLarge},
		{doc(text(strings.Repeat("a", 3_000_000))), api.ErrLarge},
		{many(1000, text(strings.Repeat("a", 200-around))), api.OK},
		{append(many(1000, text(strings.Repeat("a", 200-around))), rule()), api.ErrLarge},
		{doc(para(link(strings.Repeat("a", api.MaxOut), "", str("a")))), api.ErrLarge},
		{doc(para(link("x:"+strings.Repeat("a", api.MaxOut), "", str("a")))), api.OK},
		{doc(fence("a "+strings.Repeat("a", api.MaxOut), "")), api.OK},
		{many(api.MaxNodes, rule()), api.OK},
	} {
		for name, call := range map[string]func() (string, api.Errno){
			"HTML":   func() (string, api.Errno) { return mark.HTML(c.doc) },
			"Render": func() (string, api.Errno) { return mark.Render(c.doc, nil) },
		} {
			s, e := call()
			if e != c.want || len(s) > api.MaxOut || (e == api.OK) == (s == "") {
				t.Errorf("%s of %s: %d bytes, error %d, want %d", name, short(show(c.doc)), len(s), e, c.want)
			}
		}
	}
	id := strings.Repeat("a", api.MaxOut-len("<h1 id=\"\"></h1>\n"))
	if s, e := mark.Render(doc(heading(1)), []string{id}); e != api.OK || len(s) != api.MaxOut {
		t.Errorf("%d bytes, error %d", len(s), e)
	}
	if s, e := mark.Render(doc(heading(1)), []string{id + "a"}); e != api.ErrLarge || s != "" {
		t.Errorf("%d bytes, error %d", len(s), e)
	}
}

// P1.10: Render.
func TestRender(t *testing.T) {
	l := doc(heading(1, str("a")), quote(heading(2, str("b")), list(1, item(heading(3)))), text("c"), heading(1, str("a")))
	want := "<h1 id=\"x\">a</h1>\n<blockquote>\n<h2 id=\"&lt;&quot;&amp;\">b</h2>\n<ol>\n<li>\n<h3 id=\"\"></h3>\n</li>\n</ol>\n</blockquote>\n<p>c</p>\n<h1 id=\"x\">a</h1>\n"
	if s, e := mark.Render(l, []string{"x", "<\"&", "", "x"}); e != api.OK || s != want {
		t.Errorf("%q, error %d", s, e)
	}
	ids, _ := mark.Ids(l)
	s, e := mark.Render(l, ids)
	if h, e2 := mark.HTML(l); e != api.OK || e2 != api.OK || s != h {
		t.Errorf("with the ids of Ids: %q, but HTML is %q", s, h)
	}
	for _, ids := range [][]string{nil, {"a", "b", "c"}, {"a", "b", "c", "d", "e"}} {
		if s, e := mark.Render(l, ids); e != api.ErrForm || s != "" {
			t.Errorf("%d ids: %q, error %d", len(ids), s, e)
		}
	}
	if s, e := mark.Render(nil, nil); e != api.OK || s != "" {
		t.Errorf("nothing: %q, error %d", s, e)
	}
	if _, e := mark.Render(nil, []string{"a"}); e != api.ErrForm {
		t.Errorf("an id too many: error %d", e)
	}
	if _, e := mark.Render(doc(text(strings.Repeat("a", api.MaxOut))), []string{"a"}); e != api.ErrForm {
		t.Errorf("an id too many before the size: error %d", e)
	}
}
