package tree_test

import (
	"fmt"
	"math/rand"
	"strings"
	"testing"

	"masthead/api"
	"masthead/tree"
)

// P3.7: the pages of a site, and their order.
func TestPublish(t *testing.T) {
	for name, c := range map[string][2]string{
		"nothing":              {"", "/"},
		"one page":             {"a.page", "/ /a/"},
		"deep":                 {"a/b/c.page", "/ /a/ /a/b/ /a/b/c/"},
		"a section":            {"a/b/_index.page", "/ /a/ /a/b/"},
		"a bundle":             {"a/b/index.page a/b/c/f a/b/f", "/ /a/ /a/b/"},
		"another language":     {"a/b.de.page", "/ /de/ /de/a/ /de/a/b/"},
		"just its root":        {"_index.de.page", "/ /de/"},
		"both":                 {"a.page a.de.page", "/ /a/ /de/ /de/a/"},
		"order by address":     {"b.page a-b.page a/c.page z/x.page", "/ /a-b/ /a/ /a/c/ /b/ /z/ /z/x/"},
		"slugs":                {"a/_index.page=z a/b.page=y c/d/_index.page=x c/d/e/index.page=w", "/ /c/ /c/x/ /c/x/w/ /z/ /z/y/"},
		"the example":          {"_index.page blog/_index.page=news blog/a.page", "/ /news/ /news/a/"},
		"the example, a draft": {"_index.page blog/_index.page=draft blog/a.page", "/ /blog/ /blog/a/"},
		"a hidden page":        {"a/b.page=draft", "/"},
		"a hidden root":        {"_index.page=draft a.page", "/ /a/"},
		"slugs that change":    {"a.page=b b.page=a", "/ /a/ /b/"},
		"a slug of a language": {"a.de.page=de", "/ /de/ /de/de/"},
		"a hidden one of two":  {"a.page=draft a.en.page", "/ /a/"},
	} {
		var l []string
		for _, part := range strings.Fields(c[0]) {
			path, how, _ := strings.Cut(part, "=")
			if how == "draft" {
				how = "draft yes"
			} else if how != "" {
				how = fmt.Sprintf("slug %q", how)
			}
			l = append(l, path, how)
		}
		if got := addresses(site(t, l...)); got != c[1] {
			t.Errorf("%s: %s, want %s", name, got, c[1])
		}
	}
}

// P3.7: what a page of a site has.
func TestPublishedPages(t *testing.T) {
	s := site(t, "_index.page", "cascade {x 1}", "a/b/index.page", "title \"B\"; slug \"s\"", "a/b/z.png", "1", "a/b/c/f", "2", "a/b/index.de.page", "y 1", "n.page", "draft yes", "m/index.page", "draft yes", "m/f", "3", "o.de.page", "")
	var want tree.Site
	want.Languages = both
	add := func(p tree.Page, text string) {
		p.Settings = settings(t, text)
		want.Pages = append(want.Pages, p)
	}
	bundle := []string{"a/b/c/f", "a/b/z.png"}
	add(tree.Page{Path: "_index.page", Language: "en", Address: "/", Kind: tree.Section, Rest: "body\n"}, "cascade {x 1}")
	add(tree.Page{Key: "a", Language: "en", Address: "/a/", Kind: tree.Section}, "x 1")
	add(tree.Page{Path: "a/b/index.page", Key: "a/b", Language: "en", Address: "/a/s/", Kind: tree.Bundle, Rest: "body\n", Files: bundle}, "slug \"s\"; title \"B\"; x 1")
	add(tree.Page{Language: "de", Address: "/de/", Kind: tree.Section}, "")
	add(tree.Page{Key: "a", Language: "de", Address: "/de/a/", Kind: tree.Section}, "")
	add(tree.Page{Path: "a/b/index.de.page", Key: "a/b", Language: "de", Address: "/de/a/b/", Kind: tree.Bundle, Rest: "body\n", Files: bundle}, "y 1")
	add(tree.Page{Path: "o.de.page", Key: "o", Language: "de", Address: "/de/o/", Kind: tree.Single}, "")
	if show(s) != show(want) {
		t.Errorf("\n%+v, want\n%+v", s, want)
	}
}

// P3.7: Sections that are made have the cascades above, those of hidden ones not.
func TestMadeSections(t *testing.T) {
	s := site(t, "_index.page", "cascade {x 1; draft yes}", "a/_index.page", "draft yes; cascade {y 1}", "a/b/c.page", "draft no", "d/_index.page", "draft no; cascade {z 1}", "d/e/f.page", "draft no")
	got := map[string]string{}
	for _, p := range s.Pages {
		got[p.Address] = written(p.Settings) + " " + p.Path
	}
	for address, want := range map[string]string{"/a/": "draft yes;x 1 ", "/a/b/": "draft yes;x 1 ", "/d/e/": "draft yes;x 1;z 1 ", "/d/": "cascade {;z 1;};draft no;x 1 d/_index.page"} {
		if got[address] != want {
			t.Errorf("%s: %q, want %q", address, got[address], want)
		}
	}
}

// P3.7: the faults.
func TestPublishFaults(t *testing.T) {
	x := strings.Repeat("x", 40)
	deep := strings.Join([]string{x, x, x, x}, "/")
	slug := func(s string) string { return fmt.Sprintf("slug %q", s) }
	for name, c := range map[string]struct {
		files []string
		path  string
		want  api.Errno
	}{
		"a long address":           {[]string{deep + "/" + x[:25] + ".page", ""}, "", api.OK},
		"a longer one":             {[]string{deep + "/" + x[:26] + ".page", ""}, deep + "/" + x[:26] + ".page", api.ErrPath},
		"of a made section":        {[]string{deep + "/" + x[:23] + "/y.de.page", ""}, deep + "/" + x[:23], api.ErrPath},
		"with a slug":              {[]string{"a/b/c/d/e/f.page", slug(x), "a/b/c/d/e/_index.page", slug(x), "a/b/c/d/_index.page", slug(x), "a/b/c/_index.page", slug(x), "a/b/_index.page", slug(x[:30])}, "a/b/c/d/e/f.page", api.ErrPath},
		"a file":                   {[]string{deep + "/a/index.page", "", deep + "/a/" + x[:34], ""}, "", api.OK},
		"a file in a language":     {[]string{deep + "/a/index.de.page", "", deep + "/a/" + x[:32], ""}, deep + "/a/index.de.page", api.ErrPath},
		"one address":              {[]string{"a.page", "", "b.page", slug("a")}, "b.page", api.ErrTwice},
		"the order of the paths":   {[]string{"a.page", slug("b"), "b.page", ""}, "b.page", api.ErrTwice},
		"a made section first":     {[]string{"a.page", "", "a/b.page", ""}, "a.page", api.ErrTwice},
		"a made section's address": {[]string{"b.page", slug("a"), "a/c.page", ""}, "b.page", api.ErrTwice},
		"an address by language":   {[]string{"de.page", "", "x.de.page", ""}, "", api.ErrTwice},
		"a root in a language":     {[]string{"de.page", "", "_index.de.page", ""}, "_index.de.page", api.ErrTwice},
		"in another language":      {[]string{"de/a.page", "", "a.de.page", ""}, "", api.ErrTwice},
		"one key":                  {[]string{"a.page", "", "a.en.page", slug("b")}, "a.en.page", api.ErrTwice},
		"one key of a bundle":      {[]string{"a.page", slug("b"), "a/index.page", ""}, "a.page", api.ErrTwice},
		"two roots":                {[]string{"_index.page", "", "_index.en.page", ""}, "_index.page", api.ErrTwice},
		"one translation":          {[]string{"a.page", `translation "t"`, "b.page", `translation "t"`}, "b.page", api.ErrTwice},
		"the key of another one":   {[]string{"a.page", `translation "b"`, "b.page", ""}, "b.page", api.ErrTwice},
		"a key and a translation":  {[]string{"a.page", `translation "b"`, "b.page", `translation "a"`}, "", api.OK},
		"in two languages":         {[]string{"a.page", `translation "t"`, "b.de.page", `translation "t"`}, "", api.OK},
		"its own output":           {[]string{"a/index.page", "", "a/index.html", ""}, "a/index.page", api.ErrTwice},
		"below its own output":     {[]string{"a/index.page", "", "a/index.html/b", ""}, "a/index.page", api.ErrTwice},
		"files in a file":          {[]string{"a/index.page", "", "a/f", "", "a/f/g", ""}, "a/index.page", api.ErrTwice},
		"files beside a file":      {[]string{"a/index.page", "", "a/f", "", "a/f-g", "", "a/fg/h", ""}, "", api.OK},
		"a page in an output":      {[]string{"index.html/_index.page", ""}, "index.html/_index.page", api.ErrTwice},
		"a slug below an output":   {[]string{"a/b.page", slug("index.html")}, "a/b.page", api.ErrTwice},
	} {
		s, f := tree.Publish(sources(t, c.files...), both, 100)
		expectFault(t, name, f, c.path, c.want)
		if (f.E == api.OK) != (len(s.Pages) > 0) {
			t.Errorf("%s: %+v beside the fault", name, s)
		}
	}
}

// P3.7: a Section that was not there, and whose settings are too large.
func TestMadeSectionTooLarge(t *testing.T) {
	l := []string{"_index.page", "cascade {x {" + numbers("a", 700) + "}}", "b/_index.page", "cascade {y {" + numbers("b", 700) + "}}; x 1", "b/c/d.page", "x 1; y 1", "b/c/e.page", "x 1; y 1; slug \"d\""}
	if _, _, f := tree.Effective(sources(t, l...), both, 100); f.E != api.OK {
		t.Fatal(f)
	}
	s, f := tree.Publish(sources(t, l...), both, 100)
	expectFault(t, "two cascades", f, "b/c", api.ErrLarge, len(s.Pages))
	_, f = tree.Publish(sources(t, append(l, "a.page", "x 1", "a.en.page", "x 1")...), both, 100)
	expectFault(t, "a fault of an earlier page", f, "a.page", api.ErrTwice)
	_, f = tree.Publish(sources(t, append(l, "c.page", "x 1", "c.en.page", "x 1")...), both, 100)
	expectFault(t, "a fault of a later page", f, "b/c", api.ErrLarge)
}

// P3.7: faults with pages that Read would not make.
func TestPublishOtherSources(t *testing.T) {
	empty := api.Value{Kind: api.Table}
	bundle := tree.Source{Path: "index.page", Language: "en", Kind: tree.Bundle, Settings: empty}
	_, f := tree.Publish([]tree.Source{bundle}, both, 0)
	expectFault(t, "a bundle at the top", f, "index.page", api.ErrPath)
	bundle.Settings = settings(t, "slug \"b\"")
	_, f = tree.Publish([]tree.Source{bundle}, both, 0)
	expectFault(t, "a bundle with a slug at the top", f, "index.page", api.ErrTwice)
	bundle.Settings = settings(t, "draft yes")
	s, f := tree.Publish([]tree.Source{bundle}, both, 0)
	if f.E != api.OK || addresses(s) != "/" {
		t.Errorf("%+v, %+v", s, f)
	}
	l := []tree.Source{{Path: "a/f.page", Key: "a/f", Language: "en", Settings: settings(t, "slug \"g\"")}, {Path: "a/g/h", Key: "a", Kind: tree.Other, Settings: empty}, {Path: "a/index.page", Key: "a", Language: "en", Kind: tree.Bundle, Settings: settings(t, "slug \"b\"; translation \"t\"")}}
	_, f = tree.Publish(l, both, 0)
	expectFault(t, "a page in a bundle", f, "a/index.page", api.ErrTwice)
}

// P3.7: what follows: hidden sources make no difference, and a site has no error.
func TestRandomSites(t *testing.T) {
	r := rand.New(rand.NewSource(4))
	published := 0
	for range 10_000 {
		l, f := tree.Read(randomFiles(r), both)
		if f.E != api.OK {
			continue
		}
		s, f := tree.Publish(l, both, 100)
		if f.E != api.OK {
			continue
		}
		published++
		if e := tree.CheckSite(s); e != api.OK {
			t.Fatalf("CheckSite: error %d of %+v", e, s)
		}
		_, hidden, _ := tree.Effective(l, both, 100)
		var shown []tree.Source
		for i, x := range l {
			if !hidden[i] {
				shown = append(shown, x)
			}
		}
		if again, f := tree.Publish(shown, both, 100); f.E != api.OK || show(again) != show(s) {
			t.Fatalf("without hidden sources: %+v, %+v; want %+v", again, f, s)
		}
	}
	if published < 2000 {
		t.Errorf("just %d sites", published)
	}
}
