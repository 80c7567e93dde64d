package asset_test

import (
	"math/rand"
	"regexp"
	"strconv"
	"strings"
	"testing"

	"masthead/api"
	"masthead/asset"
)

// P7.10: what is a link in a style.
func TestLinks(t *testing.T) {
	for _, c := range []struct {
		s     string
		paths []string
	}{
		{"", nil},
		{"url('x')", []string{"x"}},
		{"url(\"x\")", []string{"x"}},
		{"url('')", []string{""}},
		{"a{b:url('x')url(\"y\") url('x')}", []string{"x", "y", "x"}},
		{"url('url(\"x\")')", []string{"url(\"x\")"}},
		{`url('a\'b')`, []string{`a\'b`}},
		{"url(' x ')", []string{" x "}},
		{"/**/url('é\xff')", []string{"é\xff"}},
		{"url('x'", nil},
		{"url 'x')", nil},
		{"url('x' )", nil},
		{"url( 'x')", nil},
		{"url ('x')", nil},
		{"url(/**/'x')", nil},
		{"url('x'/**/)", nil},
		{"url('x'y)", nil},
		{"url('x''y')", nil},
		{"url('x','y')", nil},
		{"url(x)", nil},
		{"url[('x')", nil},
		{"url('x']", nil},
		{"url['x')", nil},
		{"url(('x')", nil},
		{"URL('x')", nil},
		{"Url('x')", nil},
		{"aurl('x')", nil},
		{"urls('x')", nil},
		{".url('x')", nil},
		{"('x')", nil},
		{"'url'('x')", nil},
		{"'url(' x)", nil},
		{"a/url('x')", nil},
		{"a,url('x')", []string{"x"}},
		{"a>url('x'))", []string{"x"}},
	} {
		links, at, e := asset.Links(c.s)
		if at != 0 || e != api.OK || len(links) != len(c.paths) {
			t.Errorf("%s: %+v, at %d, error %d; want %q", c.s, links, at, e, c.paths)
			continue
		}
		for i, link := range links {
			if link.Path != c.paths[i] || c.s[link.From:link.To] != link.Path || !strings.ContainsAny(c.s[link.From-1:link.From], "'\"") || c.s[link.To] != c.s[link.From-1] {
				t.Errorf("%s: %+v, want %q", c.s, link, c.paths[i])
			}
		}
	}
	links, _, e := asset.Links("a{b:url('x') url(\"yz\")}")
	expect(t, "two", links, e, []asset.Link{{From: 9, To: 10, Path: "x"}, {From: 18, To: 20, Path: "yz"}}, api.OK)
}

// P7.10: links are those that an expression finds, where strings hide nothing.
func TestRandomLinks(t *testing.T) {
	r := rand.New(rand.NewSource(10))
	some := []string{"url", "url", "(", "(", "'x'", "\"y\"", ")", ")", " ", "a", "/**/", "url('z')"}
	find := regexp.MustCompile(`(?:^|[^a-z])url\(('x'|"y"|'z')\)`)
	many := 0
	for range 10_000 {
		s := ""
		for range r.Intn(20) {
			s += some[r.Intn(len(some))]
		}
		var want []asset.Link
		for from := 0; ; {
			at := find.FindStringSubmatchIndex(s[from:])
			if at == nil {
				break
			}
			want = append(want, asset.Link{From: from + at[2] + 1, To: from + at[3] - 1, Path: s[from+at[2]+1 : from+at[3]-1]})
			from += at[1] - 1
		}
		got, _, e := asset.Links(s)
		expect(t, s, got, e, want, api.OK)
		many += len(want)
	}
	if many < 3000 {
		t.Errorf("only %d links", many)
	}
}

// P7.10: names in place of paths.
func TestRelink(t *testing.T) {
	s := "a{b:url('x') url( 'y' ) q('z') url(\"y\")url('x')} /* url('x') */ 'x'"
	for _, c := range []struct {
		names []asset.Name
		want  string
	}{
		{nil, s},
		{names("z", "n"), s},
		{names("x", "/long"), "a{b:url('/long') url( 'y' ) q('z') url(\"y\")url('/long')} /* url('x') */ 'x'"},
		{names("y", "n", "x", ""), "a{b:url('') url( 'y' ) q('z') url(\"n\")url('')} /* url('x') */ 'x'"},
		{names("x", "y", "y", "x"), "a{b:url('y') url( 'y' ) q('z') url(\"x\")url('y')} /* url('x') */ 'x'"},
		{names("x", "x", "X", "n", "", "n", "y", "!~é\xff({;"), "a{b:url('x') url( 'y' ) q('z') url(\"!~é\xff({;\")url('x')} /* url('x') */ 'x'"},
	} {
		got, at, e := asset.Relink(s, c.names)
		expect(t, show(c.names), []any{got, at}, e, []any{c.want, 0}, api.OK)
	}
	got, _, e := asset.Relink(`url('a\'b')url('')`, names(`a\'b`, "c", "", "d"))
	expect(t, "paths with anything", got, e, "url('c')url('d')", api.OK)
}

// P7.10: names that cannot be, and styles that are too large or none.
func TestRelinkErrors(t *testing.T) {
	var many []asset.Name
	for i := range asset.MaxParts + 1 {
		many = append(many, asset.Name{Path: strconv.Itoa(i), Name: "n"})
	}
	links := strings.Repeat("url('x')", 2000) // 16000 bytes, 14000 of them beside the paths
	for _, c := range []struct {
		name, s string
		names   []asset.Name
		at      int
		e       api.Errno
	}{
		{"as many names as can be", "a", many[1:], 0, api.OK},
		{"too many names", "a", many, 0, api.ErrLarge},
		{"too many names of no form", "'", append(names("x", " ", "x", ""), many[2:]...), 0, api.ErrLarge},
		{"as large a style as can be", wide(api.MaxBody), names("x", ""), 0, api.OK},
		{"a large style", wide(api.MaxBody + 1), names("x", " "), 0, api.ErrLarge},
		{"a large style without an end", "'" + wide(api.MaxBody), nil, 0, api.ErrLarge},
		{"twice", "a", names("x", "a", "y", "b", "x", "c"), 0, api.ErrTwice},
		{"the same twice", "a", names("x", "a", "x", "a"), 0, api.ErrTwice},
		{"twice before a byte", "a", names("x", "a", "x", " "), 0, api.ErrTwice},
		{"a byte before twice", "a", names("x", " ", "x", "a"), 0, api.ErrByte},
		{"a tab", "a", names("x", "a\t"), 0, api.ErrByte},
		{"a byte 0", "a", names("x", "\x00"), 0, api.ErrByte},
		{"a byte 31", "a", names("x", "a\x1fb"), 0, api.ErrByte},
		{"a blank", "a", names("x", "a b"), 0, api.ErrByte},
		{"a line feed", "a", names("x", "\n"), 0, api.ErrByte},
		{"a quote", "a", names("x", "'"), 0, api.ErrByte},
		{"another quote", "a", names("x", "a\""), 0, api.ErrByte},
		{"a backslash", "a", names("x", "\\"), 0, api.ErrByte},
		{"a byte 127", "a", names("x", "\x7f"), 0, api.ErrByte},
		{"a path with anything", "a", names(" '\"\x00", "a"), 0, api.OK},
		{"a name before a string", "a '", names("x", "'"), 0, api.ErrByte},
		{"twice before a string", "a '", names("x", "", "x", ""), 0, api.ErrTwice},
		{"a string without an end", "a '", names("x", "y"), 2, api.ErrSyntax},
		{"a byte that cannot be", "url('x')\x7f", names("x", "y"), 8, api.ErrByte},
		{"a string before too large", links + "'", names("x", wide(200)), len(links), api.ErrSyntax},
		{"too large", links, names("x", wide(94)), 0, api.ErrLarge},
		{"just not too large", links, names("x", wide(93)), 0, api.OK},
		{"just too large", links + "url()", names("x", wide(93)), 0, api.ErrLarge},
		{"as large as can be", links[:len(links)-8] + "url('y')", names("x", wide(93), "y", wide(93)), 0, api.OK},
		{"a large name", "url('x')", names("x", wide(api.MaxOut-7)), 0, api.OK},
		{"a name that is too large", "url('x')", names("x", wide(api.MaxOut-6)), 0, api.ErrLarge},
		{"names that are far too large", links, names("x", wide(1_000_000)), 0, api.ErrLarge},
		{"a large name that is not needed", links, names("y", wide(1_000_000)), 0, api.OK},
	} {
		got, at, e := asset.Relink(c.s, c.names)
		if at != c.at || e != c.e || (e == api.OK) != (got != "") {
			t.Errorf("%s: %s, at %d, error %d; want at %d, error %d", c.name, short(got), at, e, c.at, c.e)
		}
		if _, at, e := asset.Links(c.s); c.e == api.ErrSyntax && (at != c.at || e != c.e) {
			t.Errorf("%s: Links at %d, error %d", c.name, at, e)
		}
	}
	for s, at := range map[string]int{"url('x') '": 9, "a /*": 2, "'\n'": 0} {
		links, got, e := asset.Links(s)
		expect(t, s, []any{links, got}, e, []any{[]asset.Link(nil), at}, api.ErrSyntax)
	}
	l, at, e := asset.Links("url('x')\x01")
	expect(t, "a byte", []any{l, at}, e, []any{[]asset.Link(nil), 8}, api.ErrByte)
	if _, _, e := asset.Links(wide(api.MaxBody)); e != api.OK {
		t.Errorf("as large as can be: error %d", e)
	}
	l, at, e = asset.Links(wide(api.MaxBody + 1))
	expect(t, "large", []any{l, at}, e, []any{[]asset.Link(nil), 0}, api.ErrLarge)
}
