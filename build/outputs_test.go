package build_test

import (
	"cmp"
	"fmt"
	"math/rand"
	"slices"
	"strings"
	"testing"

	"masthead/api"
	"masthead/build"
	"masthead/tree"
)

// outFact is the fact of an output that is the only part of a page.
func outFact(address, language string, items ...string) api.Value {
	var l []string
	for _, item := range items {
		l = append(l, "page:"+item)
	}
	return partFact(address, address, language, 1, 1, api.Value{}, api.Value{}, l...)
}

func partFact(address, page, language string, part, many int, before, after api.Value, items ...string) api.Value {
	return table("address", text(address), "after", after, "before", before, "content", fact("content:"+page), "items", facts(items...), "kind", text("page"),
		"lang", text(language), "many", number(many), "number", number(part), "page", fact("page:"+page))
}

// P9.9: without a size each page is one output.
func TestPageOutputs(t *testing.T) {
	s := site(t, "en de",
		"b/_index.page", "",
		"b/x.page", front(`layout "special"`, ""),
		"b/y.page", front(`layout ""`, ""),
		"b/z/index.page", "",
		"b/z/f.txt", "",
		"a.page", front(`layout 1; slug "s"`, ""),
		"c.de.page", "",
	)
	l, w, e := build.PageOutputs(s, 0)
	if e != api.OK {
		t.Fatal(e)
	}
	same(t, "facts", l, named(
		"out:/", outFact("/", "en", "/b/", "/s/"),
		"out:/b/", outFact("/b/", "en", "/b/x/", "/b/y/", "/b/z/"),
		"out:/b/x/", outFact("/b/x/", "en"),
		"out:/b/y/", outFact("/b/y/", "en"),
		"out:/b/z/", outFact("/b/z/", "en"),
		"out:/de/", outFact("/de/", "de", "/de/c/"),
		"out:/de/c/", outFact("/de/c/", "de"),
		"out:/s/", outFact("/s/", "en"),
	))
	same(t, "outputs", w, wants(
		"b/index.html", "layout/section", "out:/b/",
		"b/x/index.html", "layout/special", "out:/b/x/",
		"b/y/index.html", "layout/", "out:/b/y/",
		"b/z/index.html", "layout/bundle", "out:/b/z/",
		"de/c/index.html", "layout/page", "out:/de/c/",
		"de/index.html", "layout/section", "out:/de/",
		"index.html", "layout/section", "out:/",
		"s/index.html", "layout/page", "out:/s/",
	))
}

// P9.9: with a size sections have parts, and other pages have not.
func TestPageOutputsParts(t *testing.T) {
	s := site(t, "en",
		"_index.page", front(`layout "l"`, ""), "a.page", "", "b.page", "", "c.page", "", "d.page", "", "e/_index.page", "",
	)
	before, after := text("/"), text("/page/3/")
	l, w, e := build.PageOutputs(s, 2)
	if e != api.OK {
		t.Fatal(e)
	}
	same(t, "facts", l, named(
		"out:/", partFact("/", "/", "en", 1, 3, api.Value{}, text("/page/2/"), "page:/a/", "page:/b/"),
		"out:/a/", outFact("/a/", "en"), "out:/b/", outFact("/b/", "en"), "out:/c/", outFact("/c/", "en"), "out:/d/", outFact("/d/", "en"), "out:/e/", outFact("/e/", "en"),
		"out:/page/2/", partFact("/page/2/", "/", "en", 2, 3, before, after, "page:/c/", "page:/d/"),
		"out:/page/3/", partFact("/page/3/", "/", "en", 3, 3, text("/page/2/"), api.Value{}, "page:/e/"),
	))
	same(t, "outputs", w[5:], wants("index.html", "layout/l", "out:/", "page/2/index.html", "layout/l", "out:/page/2/", "page/3/index.html", "layout/l", "out:/page/3/"))
	for size, many := range map[int]int{0: 6, 1: 10, 2: 8, 3: 7, 4: 7, 5: 6, 6: 6, 100: 6} {
		_, w, e := build.PageOutputs(s, size)
		if e != api.OK || len(w) != many {
			t.Errorf("size %d: %d outputs, error %d", size, len(w), e)
		}
	}
}

// P9.9: children are in the order of weight, date and address; settings of other kinds do not count.
func TestPageOutputsOrder(t *testing.T) {
	s := site(t, "en",
		"a.page", "", "b.page", front("weight 1; date 2024-01-01", ""), "c.page", front("weight -1", ""), "d.page", front("date 2000-01-01", ""), "e.page", front("date 2001-01-01", ""),
		"f.page", front("date 2000-01-01; weight 0", ""), "g.page", front("date 1970-01-01", ""), "h.page", front("weight 1; date 2024-01-02", ""), "i.page", front("weight 1", ""), "j.page", "",
	)
	l, _, e := build.PageOutputs(s, 0)
	expect(t, "order", valueOf(t, l, "out:/").Items[4], e, facts(words("page:/c/ page:/e/ page:/d/ page:/f/ page:/g/ page:/a/ page:/j/ page:/h/ page:/b/ page:/i/")...), api.OK)
	odd := tree.Site{Languages: words("en"), Pages: []tree.Page{
		{Language: "en", Address: "/", Kind: tree.Section, Settings: table("layout", list(text("x")))},
		{Language: "en", Key: "a", Address: "/a/", Settings: table("date", number(9), "weight", text("9"))},
		{Language: "en", Key: "b", Address: "/b/", Settings: text("weight")},
		{Language: "en", Key: "c", Address: "/c/", Settings: table("date", day(0), "layout", number(1), "weight", day(9))},
	}}
	l, w, e := build.PageOutputs(odd, 0)
	expect(t, "other kinds", valueOf(t, l, "out:/").Items[4], e, facts(words("page:/c/ page:/a/ page:/b/")...), api.OK)
	same(t, "layouts", []string{w[0].Template, w[1].Template, w[2].Template, w[3].Template}, words("layout/page layout/page layout/page layout/section"))
}

// manyPages is a site of a root and so many pages.
func manyPages(n int) tree.Site {
	s := tree.Site{Languages: words("en"), Pages: []tree.Page{{Language: "en", Address: "/", Kind: tree.Section}}}
	for i := range n {
		key := fmt.Sprintf("p%04d", i)
		s.Pages = append(s.Pages, tree.Page{Language: "en", Key: key, Address: "/" + key + "/"})
	}
	return s
}

// longPage is a site with pages below each other, whose last one has an address of so many bytes.
func longPage(kind, length int) tree.Site {
	s := tree.Site{Languages: words("en"), Pages: []tree.Page{{Language: "en", Address: "/", Kind: tree.Section}}}
	address, key := "/", ""
	for len(address) < length {
		part := strings.Repeat("a", min(30, length-len(address)-1))
		if rest := length - len(address) - len(part) - 1; rest == 1 {
			part = part[1:]
		}
		address, key = address+part+"/", strings.TrimPrefix(key+"/"+part, "/")
		s.Pages = append(s.Pages, tree.Page{Language: "en", Key: key, Address: address, Kind: tree.Section})
	}
	s.Pages[len(s.Pages)-1].Kind = kind
	return s
}

// withChildren is a site with two pages below its last page.
func withChildren(s tree.Site) tree.Site {
	last := s.Pages[len(s.Pages)-1]
	for _, part := range words("0 1") {
		s.Pages = append(s.Pages, tree.Page{Language: "en", Key: last.Key + "/" + part, Address: last.Address + part + "/"})
	}
	return s
}

// P9.9: what is wrong with outputs of pages.
func TestPageOutputsErrors(t *testing.T) {
	twice := site(t, "en", "_index.page", "", "a.page", "", "b.page", "", "page/_index.page", "", "page/2.page", "")
	nested := site(t, "en", "_index.page", "")
	nested.Pages = append(nested.Pages, tree.Page{Language: "en", Key: "x", Address: "/index.html/", Kind: tree.Section})
	parted, tooDeep := withChildren(longPage(tree.Section, 184)), withChildren(longPage(tree.Section, 185))
	for name, c := range map[string]struct {
		site tree.Site
		size int
		want api.Errno
	}{
		"no site":                   {tree.Site{}, -1, api.ErrName},
		"no root":                   {tree.Site{Languages: words("en")}, 0, api.ErrForm},
		"a size below 0":            {manyPages(1), -1, api.ErrRange},
		"a size too great":          {manyPages(1), build.MaxPage + 1, api.ErrRange},
		"a great size":              {manyPages(1), build.MaxPage, api.OK},
		"many":                      {manyPages(build.MaxWants - 1), 0, api.OK},
		"too many":                  {manyPages(build.MaxWants), 0, api.ErrLarge},
		"all that there can be":     {manyPages(tree.MaxPages - 1), 0, api.ErrLarge},
		"more than there can be":    {manyPages(tree.MaxPages), -1, api.ErrLarge},
		"range before large":        {manyPages(build.MaxWants), -1, api.ErrRange},
		"many with parts":           {manyPages(build.MaxWants - 4), 100, api.OK}, // 397 pages and 3 more parts
		"too many with parts":       {manyPages(build.MaxWants - 3), 100, api.ErrLarge},
		"a long path":               {longPage(tree.Section, 191), 0, api.OK},
		"a path too long":           {longPage(tree.Section, 192), 0, api.ErrPath},
		"a part's path":             {parted, 1, api.OK},
		"a part's path too long":    {tooDeep, 1, api.ErrPath},
		"not without parts":         {tooDeep, 0, api.OK},
		"a part's address too long": {withChildren(longPage(tree.Section, 197)), 1, api.ErrPath},
		"a part where a page is":    {twice, 1, api.ErrTwice},
		"not with greater parts":    {twice, 2, api.ErrTwice},
		"not with one part":         {twice, 3, api.OK},
		"not without parts either":  {twice, 0, api.OK},
		"a file as a directory":     {nested, 0, api.ErrTwice},
	} {
		l, w, e := build.PageOutputs(c.site, c.size)
		if e != c.want || (l == nil) != (e != api.OK) || (w == nil) != (e != api.OK) {
			t.Errorf("%s: error %d, not %d; %v", name, e, c.want, w)
		}
	}
	large := manyPages(build.MaxWants)
	large.Pages[1].Address = "/index.html/"
	if _, _, e := build.PageOutputs(large, 0); e != api.ErrLarge {
		t.Errorf("large before twice: error %d", e)
	}
	long := longPage(tree.Section, 195)
	long.Pages = append(long.Pages, tree.Page{Language: "en", Key: "x", Address: "/index.html/", Kind: tree.Section})
	if _, _, e := build.PageOutputs(long, 0); e != api.ErrPath {
		t.Errorf("path before twice: error %d", e)
	}
}

// outputsOf is PageOutputs, as the chapter has it, for a site and a size that are right.
func outputsOf(s tree.Site, size int) ([]api.Named, []build.Want) {
	var l []api.Named
	var w []build.Want
	for i, p := range s.Pages {
		children, _ := tree.Children(s, i)
		var all []string
		slices.SortFunc(children, func(a, b int) int {
			number := func(p tree.Page, key string, kind, missing int) int {
				if i := slices.Index(p.Settings.Keys, key); i >= 0 && p.Settings.Items[i].Kind == kind {
					return p.Settings.Items[i].Int
				}
				return missing
			}
			x, y := s.Pages[a], s.Pages[b]
			return cmp.Or(number(x, "weight", api.Int, 0)-number(y, "weight", api.Int, 0), number(y, "date", api.Day, -1)-number(x, "date", api.Day, -1), strings.Compare(x.Address, y.Address))
		})
		for _, c := range children {
			all = append(all, "page:"+s.Pages[c].Address)
		}
		layout := words("page bundle section")[p.Kind]
		if i := slices.Index(p.Settings.Keys, "layout"); i >= 0 && p.Settings.Items[i].Kind == api.String {
			layout = p.Settings.Items[i].Text
		}
		var pieces [][]string
		for size > 0 && p.Kind == tree.Section && len(all) > size {
			pieces, all = append(pieces, all[:size]), all[size:]
		}
		pieces = append(pieces, all)
		address := func(i int) string {
			if i == 0 {
				return p.Address
			}
			return fmt.Sprint(p.Address, "page/", i+1, "/")
		}
		for i, items := range pieces {
			var before, after api.Value
			if i > 0 {
				before = text(address(i - 1))
			}
			if i < len(pieces)-1 {
				after = text(address(i + 1))
			}
			l = append(l, api.Named{Name: "out:" + address(i), Value: partFact(address(i), p.Address, p.Language, i+1, len(pieces), before, after, items...)})
			w = append(w, build.Want{Path: address(i)[1:] + "index.html", Template: "layout/" + layout, Fact: "out:" + address(i)})
		}
	}
	slices.SortFunc(l, func(a, b api.Named) int { return strings.Compare(a.Name, b.Name) })
	slices.SortFunc(w, func(a, b build.Want) int { return strings.Compare(a.Path, b.Path) })
	return l, w
}

// anyPages are files of pages.
func anyPages(r *rand.Rand) []api.File {
	var l []api.File
	for _, path := range words("_index.page a.page b.page b-c.page c/_index.page c/a.page c/b.page c/d/index.page c/d/x.txt e/f/g.page h.de.page c/a.de.page _index.de.page page.page i/index.page i/y") {
		if r.Intn(3) == 0 {
			continue
		}
		settings := pick(r, words("weight_1 weight_-1 date_2000-01-01 date_2001-01-01 layout_\"l\" x_1 draft_yes tags_[\"x\"_\"Y_z\"] tags_\"x\""))
		if strings.HasSuffix(path, "page") && r.Intn(2) == 0 {
			l = append(l, files(path, front(strings.ReplaceAll(settings, "_", " "), "*x*\n"))...)
		} else {
			l = append(l, files(path, path+"\n")...)
		}
	}
	return l
}

// anySite is a site of some pages; false, if there is none.
func anySite(r *rand.Rand) (tree.Site, bool) {
	sources, f := tree.Read(anyPages(r), words("en de"))
	if f.E != api.OK {
		return tree.Site{}, false
	}
	s, f := tree.Publish(sources, words("en de"), 20_000)
	return s, f.E == api.OK
}

// P9.9: random sites.
func TestPageOutputsRandom(t *testing.T) {
	r := rand.New(rand.NewSource(5))
	seen := 0
	for range 1500 {
		s, ok := anySite(r)
		if !ok {
			continue
		}
		seen++
		size := r.Intn(4)
		l, w, e := build.PageOutputs(s, size)
		wantFacts, wantOuts := outputsOf(s, size)
		if e != api.OK || show(l) != show(wantFacts) || show(w) != show(wantOuts) {
			t.Fatalf("%+v, size %d:\n%+v\n%+v\nerror %d, not\n%+v\n%+v", s, size, l, w, e, wantFacts, wantOuts)
		}
	}
	if seen < 500 {
		t.Errorf("%d sites", seen)
	}
}
