package page_test

import (
	"math/rand"
	"strings"
	"testing"

	"masthead/api"
	"masthead/page"
)

// long is an address of so many bytes, from 3 on.
func long(bytes int) string {
	s := "/"
	for bytes-len(s) > 42 {
		s += wide(40) + "/"
	}
	if bytes-len(s) == 42 {
		s += wide(20) + "/"
	}
	return s + wide(bytes-len(s)-1) + "/"
}

// P6.4: where references lead.
func TestResolve(t *testing.T) {
	deep := long(api.MaxPath)
	for _, c := range []struct{ from, ref, want string }{
		{"/a/b/", "../c", "/a/c/"},
		{"/a/", "/x/./y", "/x/y/"},
		{"/", "", "/"},
		{"/a/b/", "", "/a/b/"},
		{"/a/", "/", "/"},
		{"/a/", "b", "/a/b/"},
		{"/a/", "b/", "/a/b/"},
		{"/a/", "b//c", "/a/b/c/"},
		{"/a/", "//b", "/b/"},
		{"/a/", ".", "/a/"},
		{"/a/", "./././", "/a/"},
		{"/a/b/", "..", "/a/"},
		{"/a/b/", "../..", "/"},
		{"/a/b/", "../../c/../d", "/d/"},
		{"/", "a/..", "/"},
		{"/a/", "/./b/..//c/", "/c/"},
		{"/a/", "...", "/a/.../"},
		{"/a/", "..b", "/a/..b/"},
		{"/a/", "0-_.z", "/a/0-_.z/"},
		{"/a.b/c_d/", "e", "/a.b/c_d/e/"},
		{"/.../", "..", "/"},
		{"/", wide(40), "/" + wide(40) + "/"},
		{deep, "", deep},
		{deep, ".", deep},
		{deep, "../" + wide(len(deep)-strings.LastIndexByte(deep[:len(deep)-1], '/')-2), deep},
		{long(197), "ab", long(197) + "ab/"},
		{"/", strings.Repeat("/", 200), "/"},
		{"/a/", strings.Repeat("b/../", 40), "/a/"},
		{long(198), strings.Repeat("../", 3) + "x", long(198)[:83] + "x/"},
	} {
		s, e := page.Resolve(c.from, c.ref)
		expect(t, c.from+" "+c.ref, s, e, c.want, api.OK)
	}
}

// P6.4: references that lead nowhere, and what counts first.
func TestResolveErrors(t *testing.T) {
	for _, c := range []struct {
		from, ref string
		e         api.Errno
	}{
		{"", "a", api.ErrPath},
		{"a/", "/b", api.ErrPath},
		{"/a", "/b", api.ErrPath},
		{"//", "", api.ErrPath},
		{"/a//", "", api.ErrPath},
		{"/A/", "", api.ErrPath},
		{"/./", "", api.ErrPath},
		{"/../", "", api.ErrPath},
		{"/a/../", "", api.ErrPath},
		{"/" + wide(41) + "/", "", api.ErrPath},
		{long(201), "/", api.ErrPath},
		{long(202), "..", api.ErrPath},
		{"/", strings.Repeat("/", 201), api.ErrPath},
		{"/", "../" + strings.Repeat("/", 198), api.ErrPath},
		{"/", "..", api.ErrNone},
		{"/a/", "../..", api.ErrNone},
		{"/a/b/", "/..", api.ErrNone},
		{"/a/", "../../a", api.ErrNone},
		{"/", "a/../..", api.ErrNone},
		{"/", "B", api.ErrPath},
		{"/", "a b", api.ErrPath},
		{"/", "a?b", api.ErrPath},
		{"/", "a#b", api.ErrPath},
		{"/", "\x80", api.ErrPath},
		{"/", "a\x00", api.ErrPath},
		{"/", wide(41), api.ErrPath},
		{"/", "B/..", api.ErrPath},
		{"/", "../B", api.ErrNone},
		{"/", "B/../..", api.ErrPath},
		{long(200), "a", api.ErrPath},
		{long(199), "a", api.ErrPath},
		{long(198), "ab", api.ErrPath},
		{long(200), "a/..", api.ErrPath},
		{long(200), "a/" + strings.Repeat("../", 50), api.ErrPath},
		{long(200), strings.Repeat("../", 50) + "a", api.ErrNone},
	} {
		s, e := page.Resolve(c.from, c.ref)
		expect(t, c.from+" "+c.ref, s, e, "", c.e)
	}
}

// P6.4: references of random parts, resolved with a list of the parts.
func TestRandomResolve(t *testing.T) {
	r := rand.New(rand.NewSource(3))
	words := []string{"..", "..", ".", "", "a", "b.c", "B"}
	for range 5000 {
		from := []string{"a", "b", "c"}[:r.Intn(4)]
		address := strings.Join(append(append([]string{""}, from...), ""), "/")
		var ref []string
		for range r.Intn(6) {
			ref = append(ref, words[r.Intn(len(words))])
		}
		at, e := append([]string(nil), from...), api.OK
		if len(ref) > 1 && ref[0] == "" {
			at = nil
		}
		for _, word := range ref {
			if e != api.OK {
				break
			}
			switch word {
			case "", ".":
			case "B":
				e = api.ErrPath
			case "..":
				if len(at) == 0 {
					e = api.ErrNone
				} else {
					at = at[:len(at)-1]
				}
			default:
				at = append(at, word)
			}
		}
		want := ""
		if e == api.OK {
			want = strings.Join(append(append([]string{""}, at...), ""), "/")
		}
		s, got := page.Resolve(address, strings.Join(ref, "/"))
		expect(t, address+" "+strings.Join(ref, "/"), s, got, want, e)
	}
}

// P6.4: what becomes of a Dest.
func TestTarget(t *testing.T) {
	h := page.Host{Address: "/a/c/", Facts: facts(
		"page:/a/b/", table(),
		"page:/a/c/", table("title", str("C")),
		"page:/a/", fact("page:/a/b/"),
		"page:/s/", str("/s/"),
		"page:/twice/", num(1),
		"page:/twice/", table(),
		"page:/again/", table(),
		"page:/again/", num(1),
		"page:/list/", listOf(),
		"asset:i.png", table("url", str("/i-1.png")),
		"asset:", table("url", str("/none")),
		"asset:A b#c", table("url", str("javascript:x\n\"")),
		"asset:empty", table("url", str("")),
		"asset:safe", table("url", safe("/x")),
		"asset:number", table("url", num(1)),
		"asset:fact", table("url", fact("asset:i.png")),
		"asset:other", table("URL", str("/x"), "urls", str("/y")),
		"asset:twice", api.Value{Kind: api.Table, Keys: []string{"url", "url"}, Items: []api.Value{str("/1"), num(2)}},
		"asset:again", api.Value{Kind: api.Table, Keys: []string{"url", "url"}, Items: []api.Value{num(1), str("/2")}},
		"asset:short", api.Value{Kind: api.Table, Keys: []string{"a", "url"}, Items: []api.Value{str("/1")}},
		"asset:list", api.Value{Kind: api.List, Keys: []string{"url"}, Items: []api.Value{str("/1")}},
		"asset:is", fact("asset:i.png"),
		"asset:string", str("/x"),
		"/x", table("url", str("/y")),
	)}
	for _, c := range []struct {
		dest, want, fact string
		ok               bool
	}{
		{"ref:../b#x", "/a/b/#x", "page:/a/b/", true},
		{"ref:", "/a/c/", "page:/a/c/", true},
		{"ref:#", "/a/c/#", "page:/a/c/", true},
		{"ref:#x#y", "/a/c/#x#y", "page:/a/c/", true},
		{"ref:.#../\"<", "/a/c/#../\"<", "page:/a/c/", true},
		{"ref:/a/b", "/a/b/", "page:/a/b/", true},
		{"ref:/a/b/#ref:", "/a/b/#ref:", "page:/a/b/", true},
		{"ref:..", "#", "page:/a/", false},
		{"ref:..#x", "#", "page:/a/", false},
		{"ref:/s", "#", "page:/s/", false},
		{"ref:/list", "#", "page:/list/", false},
		{"ref:/twice", "#", "page:/twice/", false},
		{"ref:/again", "/again/", "page:/again/", true},
		{"ref:/none#x", "#", "page:/none/", false},
		{"ref:/", "#", "page:/", false},
		{"ref:../../..", "#", "", false},
		{"ref:B#x", "#", "", false},
		{"ref:b?c", "#", "", false},
		{"ref:" + strings.Repeat("/", 201), "#", "", false},
		{"ref:#" + wide(1000), "/a/c/#" + wide(1000), "page:/a/c/", true},
		{"asset:i.png", "/i-1.png", "asset:i.png", true},
		{"asset:", "/none", "asset:", true},
		{"asset:A b#c", "javascript:x\n\"", "asset:A b#c", true},
		{"asset:empty", "", "asset:empty", true},
		{"asset:none", "#", "asset:none", false},
		{"asset:/i.png", "#", "asset:/i.png", false},
		{"asset:i.png#x", "#", "asset:i.png#x", false},
		{"asset:safe", "#", "asset:safe", false},
		{"asset:number", "#", "asset:number", false},
		{"asset:fact", "#", "asset:fact", false},
		{"asset:other", "#", "asset:other", false},
		{"asset:twice", "/1", "asset:twice", true},
		{"asset:again", "#", "asset:again", false},
		{"asset:short", "#", "asset:short", false},
		{"asset:list", "#", "asset:list", false},
		{"asset:is", "#", "asset:is", false},
		{"asset:string", "#", "asset:string", false},
		{"", "", "", true},
		{"/x", "/x", "", true},
		{"ref", "ref", "", true},
		{"Ref:", "Ref:", "", true},
		{" ref:", " ref:", "", true},
		{"/ref:", "/ref:", "", true},
		{"ASSET:i.png", "ASSET:i.png", "", true},
		{"assets:i.png", "assets:i.png", "", true},
		{"javascript:x", "javascript:x", "", true},
		{"page:/a/b/", "page:/a/b/", "", true},
	} {
		dest, fact, ok := page.Target(h, c.dest)
		if dest != c.want || fact != c.fact || ok != c.ok {
			t.Errorf("%q: %q, %q, %v; want %q, %q, %v", c.dest, dest, fact, ok, c.want, c.fact, c.ok)
		}
	}
	dest, fact, ok := page.Target(page.Host{Address: "/a", Facts: facts("page:/a/", table(), "page:/b/", table())}, "ref:/b")
	if dest != "#" || fact != "" || ok {
		t.Errorf("from no address: %q, %q, %v", dest, fact, ok)
	}
}

// P6.4: the Dests of a body that say what is meant.
func TestReferences(t *testing.T) {
	for body, want := range map[string]string{
		"":                          "",
		"a ref:b":                   "",
		"`[a](ref:b)` \\[a](ref:b)": "",
		"[a](ref:b) ![c](asset:d) [e](f)\n{< x />}\n[g](ref:h)":                                 "ref:b asset:d ref:h",
		"[a ![b](asset:c) *d*](ref:e) [f](ref:b)":                                               "ref:e asset:c ref:b",
		"[a](ref:b) [a](ref:b)":                                                                 "ref:b ref:b",
		"[a](Ref:b) [a](asset) [a](xref:b) [a](/ref:b) [a](ref:) [a](asset:#)":                  "ref: asset:#",
		"{< a >}\n> # [b](ref:c)\n{< b >}\n| ![d](asset:e) |\n{< /b >}\n{< /a >}\n- [f](ref:g)": "ref:c asset:e ref:g",
		"```\n[a](ref:b)\n```":                                                                  "",
		"{< a \"[a](ref:b)\" />}":                                                               "",
	} {
		l, e := page.References(body)
		expect(t, body, l, e, strings.Fields(want), api.OK)
	}
}
