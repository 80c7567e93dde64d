package page_test

import (
	"math/rand"
	"strings"
	"testing"

	"masthead/api"
	"masthead/mark"
	"masthead/page"
)

// tree are parts that no body has, too: what is inside of a text, and of a whole shortcode.
func tree() []page.Part {
	odd := text("# f\n")
	odd.Inner = parts(whole("y"), text("g\n"))
	even := whole("x")
	even.Inner = parts(text("h\n"), whole("w"))
	return parts(text("a\n"), around("b", text("- c\n"), around("z", whole("b"), text("d\n")), text("e\n")), odd, even, text(""), whole("a"))
}

// P6.3: the names of shortcodes, at whatever depth, rising and each once.
func TestShortcodes(t *testing.T) {
	for _, c := range []struct {
		l    []page.Part
		want string
	}{
		{nil, ""},
		{parts(text("a\n")), ""},
		{parts(whole("b"), whole("a"), whole("b")), "a b"},
		{parts(whole("a"), whole("a"), whole("a-"), whole("0"), whole("-")), "- 0 a a-"},
		{parts(around("c", around("b", whole("a"))), whole("d")), "a b c d"},
		{tree(), "a b w x y z"},
	} {
		expect(t, show(c.l), page.Shortcodes(c.l), api.OK, strings.Fields(c.want), api.OK)
	}
}

// P6.3: the names of shortcodes without a template.
func TestMissing(t *testing.T) {
	for _, c := range []struct {
		names, want string
	}{
		{"", "a b w x y z"},
		{"short/a short/b short/w short/x short/y short/z", ""},
		{"short/a short/z short/q", "b w x y"},
		{"short/z short/a short/a", "b w x y"},
		{"a hook/b short/bb shortw short//x short/Y short/ /short/z", "a b w x y z"},
	} {
		templates := set()
		for _, name := range strings.Fields(c.names) {
			templates = append(templates, set(name, "{{ if")...)
		}
		expect(t, c.names, page.Missing(tree(), templates), api.OK, strings.Fields(c.want), api.OK)
	}
	expect(t, "no parts", page.Missing(nil, set("a", "")), api.OK, []string{}, api.OK)
}

// P6.3: the documents of the texts, in order.
func TestDocuments(t *testing.T) {
	for _, c := range []struct {
		l    []page.Part
		want []string
	}{
		{nil, nil},
		{parts(whole("a"), around("b")), nil},
		{parts(text("a\n"), whole("b"), text("*c*\n")), []string{"a", "*c*"}},
		{tree(), []string{"a", "- c", "d", "e", "# f", "g", "h", ""}},
		{parts(text("a\n"), text("a\n")), []string{"a", "a"}},
		{parts(text("{< a />}\n")), []string{"{< a />}"}},
	} {
		var want [][]mark.Node
		for _, s := range c.want {
			want = append(want, document(t, s))
		}
		docs, e := page.Documents(c.l)
		expect(t, show(c.l), docs, e, want, api.OK)
	}
}

// P6.3: the first error that there is counts.
func TestDocumentsErrors(t *testing.T) {
	large, deep, long := "# \n", strings.Repeat(">", 13), wide(api.MaxBody)
	large = strings.Repeat(large, api.MaxNodes+1)
	for _, c := range []struct {
		name string
		l    []page.Part
		e    api.Errno
	}{
		{"as large as can be", parts(text(large[3:])), api.OK},
		{"too many nodes", parts(text(large)), api.ErrLarge},
		{"many nodes together", parts(text(large[3:]), whole("a"), text("a")), api.OK},
		{"as long as can be", parts(text(long)), api.OK},
		{"too long", parts(text(long + "\n")), api.ErrLarge},
		{"as deep as can be", parts(text(deep[1:])), api.OK},
		{"too deep", parts(text(deep)), api.ErrDeep},
		{"a byte", parts(text("a\x01")), api.ErrByte},
		{"the first one", parts(text("a"), text(deep), text("\x01")), api.ErrDeep},
		{"the first one inside", parts(around("a", text("\x01")), text(deep)), api.ErrByte},
		{"one before what is inside", parts(page.Part{Text: deep, Inner: parts(text("\x01"))}), api.ErrDeep},
		{"the text of a shortcode", parts(page.Part{Name: "a", Text: deep}), api.OK},
	} {
		if docs, e := page.Documents(c.l); e != c.e || e != api.OK && docs != nil {
			t.Errorf("%s: %d documents, error %d; want %d", c.name, len(docs), e, c.e)
		}
	}
}

// P6.8: the plain string of a body.
func TestText(t *testing.T) {
	for body, want := range map[string]string{
		"":                     "",
		"\n":                   "",
		"# a *b*\n`c` ![d](e)": "a b\nc d\n",
		"{< a \"x\" k=y />}":   "",
		"a\n{< b x >}\n*c*\n\n- d\n{< /b >}\n| e | f |": "a\nc\nd\ne\tf\n",
		"```\n{< a x />}\n```\n{< b y />}\n\\*":         "{< a x />}\n\n*\n",
		"[a](ref:b)":                                    "a\n",
	} {
		s, e := page.Text(body)
		expect(t, body, s, e, want, api.OK)
	}
}

// bodyErrors are the errors of the calls that read a body and its documents.
func bodyErrors() map[string]api.Errno {
	deep := strings.Repeat(">", 13)
	return map[string]api.Errno{
		wide(api.MaxBody + 1):                  api.ErrLarge,
		wide(api.MaxBody):                      api.ErrLarge,
		wide(api.MaxBody-1) + "\n":             api.OK,
		wide(api.MaxBody - 1):                  api.OK,
		"a\x02":                                api.ErrByte,
		"{< A />}":                             api.ErrSyntax,
		"{< a k=1 k=1 />}":                     api.ErrTwice,
		"{< a k=1 1 />}":                       api.ErrOrder,
		"{< /a >}":                             api.ErrNone,
		"{< a >}":                              api.ErrState,
		deep:                                   api.ErrDeep,
		deep[1:] + "\n{< x />}\n" + deep[1:]:   api.OK,
		deep + "\n{< a >}":                     api.ErrState,
		"{< x >}\n" + deep + "\n{< /x >}":      api.ErrDeep,
		strings.Repeat("# \n", api.MaxNodes+1): api.ErrLarge,
	}
}

// P6.4, P6.6, P6.8: the errors of Split, then those of Documents.
func TestBodyErrors(t *testing.T) {
	for body, want := range bodyErrors() {
		s, e := page.Text(body)
		l, e2 := page.References(body)
		h, e3 := page.Headings(body)
		if e != want || e2 != want || e3 != want || e != api.OK && (s != "" || l != nil || h != nil) {
			t.Errorf("%s: %q, %q, %v, errors %d, %d, %d; want %d", short(body), s, l, h, e, e2, e3, want)
		}
	}
}

// P6.3, P6.8: what is in a body is what is in its documents.
func TestRandomParts(t *testing.T) {
	r := rand.New(rand.NewSource(2))
	for range 1000 {
		body := randomBody(r, 14)
		docs, e := page.Documents(split(t, body))
		if e != api.OK {
			t.Fatalf("%q: error %d", body, e)
		}
		var plain string
		for _, doc := range docs {
			s, _ := mark.Plain(doc)
			plain += s
		}
		s, e := page.Text(body)
		expect(t, body, s, e, plain, api.OK)
	}
}
