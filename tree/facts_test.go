package tree_test

import (
	"fmt"
	"math/rand"
	"strings"
	"testing"

	"masthead/api"
	"masthead/conf"
	"masthead/tree"
)

// fact writes the value of a fact: what its lists have, in one line.
func fact(v api.Value) string {
	var l []string
	for i, item := range v.Items {
		s := fmt.Sprint(item.Kind)
		switch item.Kind {
		case api.String:
			s = fmt.Sprintf("%q", item.Text)
		case api.Fact:
			s = "->" + item.Text
		case api.Nil:
			s = "nil"
		case api.List:
			s = "[" + strings.TrimSuffix(strings.TrimPrefix(fact(item), " "), " ") + "]"
		case api.Table:
			s = "{" + written(item) + "}"
		}
		if v.Kind == api.Table {
			s = v.Keys[i] + "=" + s
		}
		l = append(l, s)
	}
	return strings.Join(l, " ")
}

// P3.15: FactName.
func TestFactName(t *testing.T) {
	for _, s := range []string{"", "/", "/a/b/", "\xff no address"} {
		if got := tree.FactName(s); got != "page:"+s {
			t.Errorf("%q: %q", s, got)
		}
	}
}

// P3.15: Facts.
func TestFacts(t *testing.T) {
	s := site(t, "_index.page", "cascade {x [1 {y 2}]}", "a/_index.page", "slug \"s\"; title \"Aa\"", "a/b/index.page", "", "a/b/f", "1", "a/b/g/h", "2", "a/b.de.page", "", "a/c-d.page", "translation \"t\"", "e.de.page", "translation \"t\"; title \"\"")
	l, e := tree.Facts(s)
	want := map[string]string{
		"/":        `address="/" children=[->page:/s/] files=[] key="" kind="section" lang="en" parent=nil settings={cascade {;x [1 {;y 2;}];}} title="Home" trail=[->page:/] translations=[->page:/de/]`,
		"/s/":      `address="/s/" children=[->page:/s/b/ ->page:/s/c-d/] files=[] key="a" kind="section" lang="en" parent=->page:/ settings={slug "s";title "Aa";x [1 {;y 2;}]} title="Aa" trail=[->page:/ ->page:/s/] translations=[->page:/de/a/]`,
		"/s/b/":    `address="/s/b/" children=[] files=["/s/b/f" "/s/b/g/h"] key="a/b" kind="bundle" lang="en" parent=->page:/s/ settings={x [1 {;y 2;}]} title="B" trail=[->page:/ ->page:/s/ ->page:/s/b/] translations=[->page:/de/a/b/]`,
		"/s/c-d/":  `address="/s/c-d/" children=[] files=[] key="a/c-d" kind="page" lang="en" parent=->page:/s/ settings={translation "t";x [1 {;y 2;}]} title="C d" trail=[->page:/ ->page:/s/ ->page:/s/c-d/] translations=[->page:/de/e/]`,
		"/de/":     `address="/de/" children=[->page:/de/a/ ->page:/de/e/] files=[] key="" kind="section" lang="de" parent=nil settings={} title="Home" trail=[->page:/de/] translations=[->page:/]`,
		"/de/a/":   `address="/de/a/" children=[->page:/de/a/b/] files=[] key="a" kind="section" lang="de" parent=->page:/de/ settings={} title="A" trail=[->page:/de/ ->page:/de/a/] translations=[->page:/s/]`,
		"/de/a/b/": `address="/de/a/b/" children=[] files=[] key="a/b" kind="page" lang="de" parent=->page:/de/a/ settings={} title="B" trail=[->page:/de/ ->page:/de/a/ ->page:/de/a/b/] translations=[->page:/s/b/]`,
		"/de/e/":   `address="/de/e/" children=[] files=[] key="e" kind="page" lang="de" parent=->page:/de/ settings={title "";translation "t"} title="" trail=[->page:/de/ ->page:/de/e/] translations=[->page:/s/c-d/]`,
	}
	if e != api.OK || len(l) != len(want) || len(l) != len(s.Pages) {
		t.Fatalf("%d facts of %d pages, error %d", len(l), len(s.Pages), e)
	}
	for i, f := range l {
		address, ok := strings.CutPrefix(f.Name, "page:")
		if got := fact(f.Value); !ok || f.Value.Kind != api.Table || got != want[address] {
			t.Errorf("%s:\n%s, want\n%s", f.Name, got, want[address])
		}
		if i > 0 && f.Name <= l[i-1].Name {
			t.Errorf("%s is not after %s", f.Name, l[i-1].Name)
		}
	}
}

// P3.15: settings of any kind are as they are; the title is then that of the key.
func TestFactsOfAnySite(t *testing.T) {
	s := example(t)
	s = changed(s, at(t, s, "/a/"), func(p *tree.Page) {
		p.Settings = api.Value{Kind: api.List, Items: []api.Value{{Kind: api.Int, Int: 3}}}
	})
	s = changed(s, at(t, s, "/a/b/"), func(p *tree.Page) { p.Settings = settings(t, "title 1; translation 2") })
	l, e := tree.Facts(s)
	if e != api.OK || len(l) != len(s.Pages) {
		t.Fatal(e)
	}
	for _, f := range l {
		switch f.Name {
		case "page:/a/":
			if conf.Compare(f.Value.Items[7], s.Pages[at(t, s, "/a/")].Settings) != 0 || f.Value.Items[8].Text != "A" {
				t.Error(f)
			}
		case "page:/a/b/":
			if f.Value.Items[8].Text != "B" || len(f.Value.Items[10].Items) != 1 {
				t.Error(f)
			}
		}
	}
	if l, e := tree.Facts(tree.Site{}); e != api.ErrName || len(l) > 0 {
		t.Errorf("no site: %+v, error %d", l, e)
	}
}

// P3.15: facts say what the other functions say.
func TestRandomFacts(t *testing.T) {
	for _, s := range randomSites(t, rand.New(rand.NewSource(8)), 200) {
		l, e := tree.Facts(s)
		if e != api.OK || len(l) != len(s.Pages) {
			t.Fatal(e)
		}
		for _, f := range l {
			i := tree.Find(s, f.Value.Items[0].Text)
			children, _ := tree.Children(s, i)
			trail, _ := tree.Trail(s, i)
			translations, _ := tree.Translations(s, i)
			for k, pages := range map[int][]int{1: children, 9: trail} {
				if got := strings.ReplaceAll(fact(f.Value.Items[k]), "->page:", ""); got != named(s, pages) {
					t.Fatalf("%s: %s, want %s", f.Name, got, named(s, pages))
				}
			}
			if len(f.Value.Items[10].Items) != len(translations)-1 {
				t.Fatalf("%s has translations %v", f.Name, translations)
			}
		}
	}
}
