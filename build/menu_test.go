package build_test

import (
	"testing"

	"masthead/api"
	"masthead/build"
	"masthead/tree"
)

// P9.8: a menu as a fact.
func TestMenuFact(t *testing.T) {
	s := site(t, "en de",
		"_index.page", front(`menus { main { title "Home"; weight -1 } }`, ""),
		"a.page", front(`menus { main { title "A" }; foot {} }`, ""),
		"b.page", front(`menus { main { parent "a" } }`, ""),
		"c.page", front(`menus { main { parent "b"; weight 3 } }; title "C c"`, ""),
		"d.page", front(`menus { main { parent "b" } }`, ""),
		"e.de.page", front(`menus { main {} }`, ""),
	)
	item := func(address, id, title string, items ...api.Value) api.Value {
		return table("address", text(address), "id", text(id), "items", list(items...), "title", text(title))
	}
	for _, c := range []struct {
		language, name string
		want           api.Value
	}{
		{"en", "main", list(item("/", "", "Home"), item("/a/", "a", "A", item("/b/", "b", "B", item("/d/", "d", "D"), item("/c/", "c", "C c"))))},
		{"en", "foot", list(item("/a/", "a", "A"))},
		{"de", "main", list(item("/de/e/", "e", "E"))},
		{"de", "foot", list()},
		{"en", "none", list()},
		{"en", "", list()},
		{"en", "No key:", list()},
	} {
		got, e := build.MenuFact(s, c.language, c.name)
		expect(t, c.language+" "+c.name, got, e, api.Named{Name: "menu:" + c.language + ":" + c.name, Value: c.want}, api.OK)
	}
}

// P9.8: the errors are those of tree.Menu.
func TestMenuFactErrors(t *testing.T) {
	page := func(menu string) tree.Site {
		return site(t, "en", "a.page", front("menus { main { "+menu+" } }", ""), "b.page", front(`menus { main { parent "a" } }`, ""))
	}
	good := page("")
	for name, c := range map[string]struct {
		site     tree.Site
		language string
		want     api.Errno
	}{
		"good":        {good, "en", api.OK},
		"no language": {good, "de", api.ErrName},
		"empty":       {good, "", api.ErrName},
		"no parent":   {page(`parent "c"`), "en", api.ErrNone},
		"a ring":      {page(`parent "b"`), "en", api.ErrLoop},
		"no site":     {tree.Site{Languages: words("en")}, "en", api.ErrForm},
		"nothing":     {tree.Site{}, "en", api.ErrName},
	} {
		got, e := build.MenuFact(c.site, c.language, "main")
		if e != c.want || e != api.OK && show(got) != show(api.Named{}) {
			t.Errorf("%s: %+v, error %d", name, got, e)
		}
	}
}
