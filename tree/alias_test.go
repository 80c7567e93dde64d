package tree_test

import (
	"fmt"
	"math/rand"
	"strings"
	"testing"

	"masthead/api"
	"masthead/tree"
)

// aliases writes aliases: from>to.
func aliases(l []tree.Alias) string {
	var out []string
	for _, a := range l {
		out = append(out, a.From+">"+a.To)
	}
	return strings.Join(out, " ")
}

// P3.12: Aliases.
func TestAliases(t *testing.T) {
	for name, c := range map[string]struct {
		files []string
		want  string
	}{
		"none":                {[]string{"a.page", "aliases []"}, ""},
		"an address":          {[]string{"b/a.page", `aliases ["/old/" "/0/1/"]`}, "/0/1/>/b/a/ /old/>/b/a/"},
		"a path":              {[]string{"b/a.page", `aliases ["was" "w/x"]`}, "/b/w/x/>/b/a/ /b/was/>/b/a/"},
		"below its section":   {[]string{"b/a.page", `aliases ["a/x"]`}, "/b/a/x/>/b/a/"},
		"of a section":        {[]string{"b/_index.page", `aliases ["c"]; slug "s"`, "b/a.page", `aliases ["c"]`}, "/c/>/s/ /s/c/>/s/a/"},
		"of a bundle":         {[]string{"b/c/index.page", `aliases ["d"]`}, "/b/d/>/b/c/"},
		"of a root":           {[]string{"_index.page", `aliases ["x" "/y/"]`, "_index.de.page", `aliases ["x"]`}, "/de/x/>/de/ /x/>/ /y/>/"},
		"of languages":        {[]string{"a.page", `aliases ["/z/"]`, "a.de.page", `aliases ["x" "/en/x/"]`}, "/de/x/>/de/a/ /en/x/>/de/a/ /z/>/a/"},
		"an earlier language": {[]string{"a.page", `aliases ["/de/"]`}, "/de/>/a/"},
		"of a hidden page":    {[]string{"a.page", `aliases ["x"]; draft yes`}, ""},
		"what is not there":   {[]string{"b/a.page", `aliases ["/c/"]`, "c.page", "draft yes"}, "/c/>/b/a/"},
		"beside a file":       {[]string{"b/index.page", "", "b/f", "", "a.page", `aliases ["b/g" "b/f-"]`}, "/b/f-/>/a/ /b/g/>/a/"},
	} {
		l, f := tree.Aliases(site(t, c.files...))
		if got := aliases(l); f != (tree.Fault{}) || got != c.want {
			t.Errorf("%s: %s, %+v; want %s", name, got, f, c.want)
		}
	}
}

// P3.12: aliases that are none, in a site that is not from Publish.
func TestAliasesOfAnySite(t *testing.T) {
	for text, want := range map[string]string{`aliases "x"`: "", `aliases ["x" 1]`: "", `aliases {x "x"}`: "", `aliases nil`: "", `x 1`: "", `aliases ["x"]`: "/a/x/>/a/b/"} {
		s := example(t)
		s = changed(s, at(t, s, "/a/b/"), func(p *tree.Page) { p.Settings = settings(t, text) })
		if l, f := tree.Aliases(s); f.E != api.OK || aliases(l) != want {
			t.Errorf("%s: %s, %+v; want %s", text, aliases(l), f, want)
		}
	}
	s := example(t)
	s = changed(s, at(t, s, "/a/b/"), func(p *tree.Page) { p.Settings = api.Value{} })
	if l, f := tree.Aliases(s); f.E != api.OK || len(l) > 0 {
		t.Errorf("no table: %s, %+v", aliases(l), f)
	}
}

// P3.12: the faults.
func TestAliasFaults(t *testing.T) {
	x := strings.Repeat(strings.Repeat("x", 40)+"/", 4)
	for _, c := range []struct {
		alias string
		want  api.Errno
	}{
		{"A", api.ErrPath}, {"", api.ErrPath}, {"/", api.ErrTwice}, {"/x", api.ErrPath}, {"x/", api.ErrPath}, {"//", api.ErrPath}, {"/A/", api.ErrPath}, {"../c", api.ErrPath}, {x + strings.Repeat("x", 34), api.OK}, {x + strings.Repeat("x", 35), api.ErrPath}, {"/" + x + strings.Repeat("x", 36) + "/", api.OK}, {"/" + x + strings.Repeat("x", 37) + "/", api.ErrPath},
		{"/a/", api.ErrTwice}, {"/a/b/", api.ErrTwice}, {"b", api.ErrTwice}, {"c", api.ErrTwice}, {"/de/a/", api.ErrTwice}, {"a", api.OK}, {"/b/", api.OK},
		{"/x/f/", api.ErrTwice}, {"/x/f/g/", api.ErrTwice}, {"/x/g/", api.OK}, {"/x/g/h/", api.ErrTwice}, {"/x/g/i/", api.OK}, {"/index.html/", api.ErrTwice}, {"/a/index.html/x/", api.ErrTwice}, {"/b/index.html/", api.OK}, {"/x/d/", api.ErrTwice}, {"/x/e/", api.ErrTwice},
	} {
		s := example(t)
		s = changed(s, at(t, s, "/x/"), func(p *tree.Page) {
			p.Files = []string{"x/d/index.html", "x/e/index.html/f", "x/f", "x/g/h"}
		})
		s = changed(s, at(t, s, "/a/b/"), func(p *tree.Page) { p.Settings = settings(t, fmt.Sprintf("aliases [%q]", c.alias)) })
		l, f := tree.Aliases(s)
		if c.want == api.OK {
			if f != (tree.Fault{}) || len(l) != 1 {
				t.Errorf("%q: %+v", c.alias, f)
			}
			continue
		}
		expectFault(t, c.alias, f, "a/b.page", c.want, len(l))
	}
	_, f := tree.Aliases(site(t, "a.page", `aliases ["/x/"]`, "b.page", `aliases ["/y/" "/x/"]`))
	expectFault(t, "of two pages", f, "b.page", api.ErrTwice)
	_, f = tree.Aliases(site(t, "a.page", `aliases ["x" "/x/"]`))
	expectFault(t, "of one page", f, "a.page", api.ErrTwice)
	_, f = tree.Aliases(site(t, "a.page", `aliases ["/b/"]`, "b.page", `aliases ["/a/"]`))
	expectFault(t, "two faults", f, "a.page", api.ErrTwice)
	s := example(t)
	for _, i := range []int{at(t, s, "/a/c/"), at(t, s, "/de/a/b/")} {
		s = changed(s, i, func(p *tree.Page) { p.Settings = settings(t, `aliases ["A"]`) })
	}
	_, f = tree.Aliases(s)
	expectFault(t, "the first page", f, "a/c.page", api.ErrPath)
	_, f = tree.Aliases(tree.Site{})
	expectFault(t, "no site", f, "", api.ErrName)
}

// P3.13: Moved.
func TestMoved(t *testing.T) {
	for name, c := range map[string]struct{ before, now, want string }{
		"nothing":             {"a.page b/c.page", "a.page b/c.page", ""},
		"a slug":              {"a.page", "a.page=z", "/a/>/z/"},
		"back":                {"a.page=z", "a.page", "/z/>/a/"},
		"a section":           {"b/c.page b/d.page", "b/_index.page=z b/c.page b/d.page=e", "/b/>/z/ /b/c/>/z/c/ /b/d/>/z/e/"},
		"gone":                {"a.page b.page", "b.page", ""},
		"new":                 {"b.page", "a.page b.page", ""},
		"another key":         {"a.page", "b/a.page", ""},
		"another language":    {"a.page", "a.de.page=z", ""},
		"in a language":       {"a.page a.de.page", "a.page a.de.page=z", "/de/a/>/de/z/"},
		"changed places":      {"a.page b.page", "a.page=b b.page=a", ""},
		"one after the other": {"a.page b.page", "a.page=b b.page=c", "/a/>/b/"},
		"a page there":        {"a.page", "a.page=b x.page=a", ""},
		"another kind":        {"a.page", "a/index.page=b", "/a/>/b/"},
	} {
		read := func(paths string) tree.Site {
			var l []string
			for _, part := range strings.Fields(paths) {
				path, slug, ok := strings.Cut(part, "=")
				if ok {
					slug = fmt.Sprintf("slug %q", slug)
				}
				l = append(l, path, slug)
			}
			return site(t, l...)
		}
		l, e := tree.Moved(read(c.before), read(c.now))
		if got := aliases(l); e != api.OK || got != c.want {
			t.Errorf("%s: %s, error %d; want %s", name, got, e, c.want)
		}
	}
	s := example(t)
	bad := changed(s, 0, func(p *tree.Page) { p.Files = []string{""} })
	for name, c := range map[string]struct {
		before, now tree.Site
		want        api.Errno
	}{"before": {tree.Site{}, bad, api.ErrName}, "now": {s, bad, api.ErrForm}, "before again": {bad, tree.Site{}, api.ErrForm}} {
		if l, e := tree.Moved(c.before, c.now); e != c.want || len(l) > 0 {
			t.Errorf("%s: error %d, want %d", name, e, c.want)
		}
	}
}

// P3.13: languages that change their order.
func TestMovedLanguages(t *testing.T) {
	l := files("a.en.page", "", "a.de.page", "")
	publish := func(languages ...string) tree.Site {
		s, _ := tree.Read(l, languages)
		out, f := tree.Publish(s, languages, 0)
		if f.E != api.OK {
			t.Fatal(f)
		}
		return out
	}
	got, e := tree.Moved(publish("en", "de"), publish("de", "en"))
	if e != api.OK || aliases(got) != "/de/>/ /de/a/>/a/" {
		t.Errorf("%s, error %d", aliases(got), e)
	}
}

// P3.14: Outputs.
func TestOutputs(t *testing.T) {
	for _, c := range []struct {
		files []string
		want  string
	}{
		{nil, "0:index.html"},
		{[]string{"a/b.page", "", "a-b.page", "", "_index.de.page", ""}, "1:a-b/index.html 3:a/b/index.html 2:a/index.html 4:de/index.html 0:index.html"},
		{[]string{"a/x/index.page", `slug "z"`, "a/x/f", "", "a/x/j/k", "", "a/x/0", ""}, "2:a/z/0<a/x/0 2:a/z/f<a/x/f 2:a/z/index.html 2:a/z/j/k<a/x/j/k 1:a/index.html 0:index.html"},
		{[]string{"x/index.page", "", "x/index.de.page", "", "x/f", ""}, "3:de/x/f<x/f 3:de/x/index.html 2:de/index.html 0:index.html 1:x/f<x/f 1:x/index.html"},
	} {
		l, e := tree.Outputs(site(t, c.files...))
		want := map[string]bool{}
		for _, part := range strings.Fields(c.want) {
			want[part] = true
		}
		for i, o := range l {
			s := fmt.Sprint(o.Page, ":", o.Path)
			if o.File != "" {
				s += "<" + o.File
			}
			if !want[s] || i > 0 && o.Path <= l[i-1].Path {
				t.Errorf("%q: output %s", c.files, s)
			}
		}
		if e != api.OK || len(l) != len(want) {
			t.Errorf("%q: %+v, error %d; want %s", c.files, l, e, c.want)
		}
	}
}

// P3.14: a site can have two outputs of one path, and outputs that are no paths.
func TestOutputsOfAnySite(t *testing.T) {
	long := strings.Repeat(strings.Repeat("x", 40)+"/", 4) + strings.Repeat("x", 36)
	var page = func(key, address string, kind int, files ...string) tree.Page {
		return tree.Page{Key: key, Language: "en", Address: address, Kind: kind, Files: files}
	}
	s := tree.Site{Languages: both, Pages: []tree.Page{page("", "/", tree.Section), page("x", "/i/", tree.Bundle, "x/a", "x/index.html"), page("y", "/index.html/", tree.Section)}}
	l, e := tree.Outputs(s)
	if got := show(l); e != api.OK || got != show([]tree.Output{{Path: "i/a", Page: 1, File: "x/a"}, {Path: "i/index.html", Page: 1}, {Path: "i/index.html", Page: 1, File: "x/index.html"}, {Path: "index.html", Page: 0}, {Path: "index.html/index.html", Page: 2}}) {
		t.Errorf("%s, error %d", got, e)
	}
	s.Pages = []tree.Page{page("", "/", tree.Section), page("a", "/a/", tree.Section), page("a/index.html", "/a/b/", tree.Section), page("b", "/b/", tree.Bundle, "b/c/"+long[:190])}
	if l, e := tree.Outputs(s); e != api.OK || len(l) != 5 {
		t.Errorf("%+v, error %d", l, e)
	}
	if l, e := tree.Outputs(tree.Site{}); e != api.ErrName || len(l) > 0 {
		t.Errorf("no site: %+v, error %d", l, e)
	}
}

// P3.12 to P3.14: no two of the addresses and aliases of a site need one output.
func TestRandomAliases(t *testing.T) {
	many := 0
	for _, s := range randomSites(t, rand.New(rand.NewSource(7)), 500) {
		l, f := tree.Aliases(s)
		if f.E != api.OK {
			continue
		}
		outputs, e := tree.Outputs(s)
		if e != api.OK {
			t.Fatal(e)
		}
		used := map[string]bool{}
		for i, a := range l {
			many++
			if tree.Find(s, a.To) < 0 || tree.Find(s, a.From) >= 0 || i > 0 && a.From <= l[i-1].From {
				t.Fatalf("%s in %s", aliases(l), addresses(s))
			}
			used[a.From[1:]+"index.html"] = true
		}
		for i, o := range outputs {
			if used[o.Path] || tree.CheckPath(o.Path) != api.OK || i > 0 && (o.Path == outputs[i-1].Path || strings.HasPrefix(o.Path, outputs[i-1].Path+"/")) {
				t.Fatalf("%+v with %s", outputs, aliases(l))
			}
		}
	}
	if many < 50 {
		t.Errorf("just %d aliases", many)
	}
}
