package build_test

import (
	"fmt"
	"math/rand"
	"slices"
	"strings"
	"testing"

	"masthead/api"
	"masthead/build"
	"masthead/conf"
	"masthead/tree"
)

// P9.10: the terms of a kind, with their outputs.
func TestTermOutputs(t *testing.T) {
	s := site(t, "en de",
		"_index.page", front(`tags "Root"`, ""),
		"a.page", front(`tags ["x" "Y z" "X"]`, ""),
		"b.page", front(`tags ["y Z"]; kind ["k"]`, ""),
		"c.de.page", front(`tags ["x" "german"]`, ""),
		"d/_index.page", front(`cascade { tags "root" }`, ""),
		"d/e.page", "",
	)
	l, w, e := build.TermOutputs(s, "tags")
	if e != api.OK {
		t.Fatal(e)
	}
	term := func(name, title string, items ...string) api.Value {
		return table("address", text("/tags/"+name+"/"), "count", number(len(items)), "items", facts(items...), "kind", text("tags"), "name", text(name), "title", text(title))
	}
	out := func(name string) api.Value {
		return table("address", text("/tags/"+name+"/"), "kind", text("term"), "lang", text("en"), "term", fact("term:/tags/"+name+"/"))
	}
	same(t, "facts", l, named(
		"out:/tags/", table("address", text("/tags/"), "kind", text("terms"), "lang", text("en"), "terms", fact("terms:tags")),
		"out:/tags/root/", out("root"), "out:/tags/x/", out("x"), "out:/tags/y-z/", out("y-z"),
		"term:/tags/root/", term("root", "Root", "page:/", "page:/d/e/"),
		"term:/tags/x/", term("x", "x", "page:/a/"),
		"term:/tags/y-z/", term("y-z", "Y z", "page:/a/", "page:/b/"),
		"terms:tags", facts("term:/tags/root/", "term:/tags/x/", "term:/tags/y-z/"),
	))
	same(t, "outputs", w, wants(
		"tags/index.html", "layout/terms", "out:/tags/", "tags/root/index.html", "layout/term", "out:/tags/root/",
		"tags/x/index.html", "layout/term", "out:/tags/x/", "tags/y-z/index.html", "layout/term", "out:/tags/y-z/",
	))
	l, w, e = build.TermOutputs(s, "none")
	if e != api.OK {
		t.Fatal(e)
	}
	same(t, "facts of nothing", l, named("out:/none/", table("address", text("/none/"), "kind", text("terms"), "lang", text("en"), "terms", fact("terms:none")), "terms:none", list()))
	same(t, "outputs of nothing", w, wants("none/index.html", "layout/terms", "out:/none/"))
}

// P9.10: the default language is the first one, whatever comes first by its name.
func TestTermOutputsLanguage(t *testing.T) {
	s := site(t, "en de", "a.page", front(`tags "e"`, ""), "a.de.page", front(`tags "d"`, ""))
	for _, language := range words("en de") {
		x := site(t, language+" xx", "a.page", front(`tags "e"`, ""))
		l, _, _ := build.TermOutputs(x, "tags")
		same(t, language, valueOf(t, l, "out:/tags/e/").Items[2], text(language))
	}
	l, _, _ := build.TermOutputs(s, "tags")
	same(t, "names", names(l), words("out:/tags/ out:/tags/e/ term:/tags/e/ terms:tags"))
}

// P9.10: terms are in the order of their names; so are outputs in that of their paths, which is another one.
func TestTermOutputsOrder(t *testing.T) {
	s := site(t, "en", "a.page", front(`tags ["a-b" "a" "a0" "b"]`, ""))
	l, w, e := build.TermOutputs(s, "tags")
	if e != api.OK || !slices.IsSorted(names(l)) || len(w) != 5 {
		t.Errorf("%v %v %d", names(l), w, e)
	}
	var paths []string
	for _, x := range w {
		paths = append(paths, x.Path)
	}
	same(t, "paths", paths, words("tags/a-b/index.html tags/a/index.html tags/a0/index.html tags/b/index.html tags/index.html"))
}

// P9.10: what is wrong with terms.
func TestTermOutputsErrors(t *testing.T) {
	page := func(settings string) tree.Site { return site(t, "en", "a.page", front(settings, "")) }
	good := page(`tags "x"`)
	for name, c := range map[string]struct {
		site tree.Site
		kind string
		want api.Errno
	}{
		"no site":             {tree.Site{}, "", api.ErrName},
		"no root":             {tree.Site{Languages: words("en")}, "", api.ErrForm},
		"no kind":             {good, "", api.ErrName},
		"a route":             {good, "tags.x", api.ErrName},
		"a great letter":      {good, "Tags", api.ErrName},
		"a number":            {good, "1", api.ErrName},
		"a long kind":         {good, strings.Repeat("t", api.MaxPart), api.OK},
		"a kind too long":     {good, strings.Repeat("t", api.MaxPart+1), api.ErrName},
		"good":                {good, "tags", api.OK},
		"a number for terms":  {page("tags 1"), "tags", api.ErrKind},
		"a list of a number":  {page(`tags ["x" 1]`), "tags", api.ErrKind},
		"an empty slug":       {page(`tags "-"`), "tags", api.ErrName},
		"a kind before terms": {page("tags 1"), "", api.ErrName},
		"Nil":                 {page("tags nil"), "tags", api.OK},
	} {
		l, w, e := build.TermOutputs(c.site, c.kind)
		if e != c.want || (l == nil) != (e != api.OK) || (w == nil) != (e != api.OK) {
			t.Errorf("%s: error %d, not %d; %v", name, e, c.want, w)
		}
	}
}

// P9.10: more terms than a list can have.
func TestTermOutputsMany(t *testing.T) {
	many := func(n int) tree.Site {
		s := manyPages(3)
		for i := range n {
			tags := table("tags", texts())
			p := &s.Pages[1+i%3]
			if p.Settings.Kind == api.Nil {
				p.Settings = tags
			}
			p.Settings.Items[0].Items = append(p.Settings.Items[0].Items, text(fmt.Sprint("t", i)))
		}
		return s
	}
	_, w, e := build.TermOutputs(many(2000), "tags")
	expect(t, "many", len(w), e, 2001, api.OK)
	_, w, e = build.TermOutputs(many(2001), "tags")
	expect(t, "too many", len(w), e, 0, api.ErrLarge)
}

// termsOf is TermOutputs, as the chapter has it, for tags.
func termsOf(s tree.Site) ([]api.Named, []build.Want) {
	pages, titles := map[string][]string{}, map[string]string{}
	for _, p := range s.Pages {
		tags, _ := conf.Get(p.Settings, "tags")
		if p.Language != "en" {
			continue
		}
		if tags.Kind == api.String {
			tags = list(tags)
		}
		for _, tag := range tags.Items {
			slug := tree.Slug(tag.Text)
			if _, ok := titles[slug]; !ok {
				titles[slug] = tag.Text
			}
			if name := tree.FactName(p.Address); !slices.Contains(pages[slug], name) {
				pages[slug] = append(pages[slug], name)
			}
		}
	}
	terms := list()
	l := named("out:/tags/", table("address", text("/tags/"), "kind", text("terms"), "lang", text("en"), "terms", fact("terms:tags")))
	w := wants("tags/index.html", "layout/terms", "out:/tags/")
	for slug, title := range titles {
		address := "/tags/" + slug + "/"
		terms.Items = append(terms.Items, fact("term:"+address))
		l = append(l, named(
			"out:"+address, table("address", text(address), "kind", text("term"), "lang", text("en"), "term", fact("term:"+address)),
			"term:"+address, table("address", text(address), "count", number(len(pages[slug])), "items", facts(pages[slug]...), "kind", text("tags"), "name", text(slug), "title", text(title)),
		)...)
		w = append(w, build.Want{Path: address[1:] + "index.html", Template: "layout/term", Fact: "out:" + address})
	}
	slices.SortFunc(terms.Items, func(a, b api.Value) int { return strings.Compare(a.Text, b.Text) })
	l = append(l, api.Named{Name: "terms:tags", Value: terms})
	slices.SortFunc(l, func(a, b api.Named) int { return strings.Compare(a.Name, b.Name) })
	slices.SortFunc(w, func(a, b build.Want) int { return strings.Compare(a.Path, b.Path) })
	return l, w
}

// P9.10: random sites.
func TestTermOutputsRandom(t *testing.T) {
	r := rand.New(rand.NewSource(6))
	most := 0
	for range 1000 {
		s, ok := anySite(r)
		if !ok {
			continue
		}
		for i := range s.Pages {
			if r.Intn(3) > 0 {
				tags := texts()
				for range r.Intn(4) {
					tags.Items = append(tags.Items, text(pick(r, []string{"a", "A", "a b", "a-b", "A  B", "b", "c!", "é1"})))
				}
				s.Pages[i].Settings = table("tags", tags)
			}
		}
		l, w, e := build.TermOutputs(s, "tags")
		wantFacts, wantOuts := termsOf(s)
		if e != api.OK || show(l) != show(wantFacts) || show(w) != show(wantOuts) {
			t.Fatalf("%+v:\n%+v\n%+v\nerror %d, not\n%+v\n%+v", s, l, w, e, wantFacts, wantOuts)
		}
		most = max(most, len(w))
	}
	if most < 6 {
		t.Errorf("at most %d outputs", most)
	}
}
