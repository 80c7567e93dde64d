package tree_test

import (
	"fmt"
	"slices"
	"strings"
	"testing"

	"masthead/api"
	"masthead/conf"
	"masthead/tree"
)

// example is a site with pages of all kinds: / /a/ /a/b/ /a/c/ /x/ /de/ /de/a/ /de/a/b/.
func example(t *testing.T) tree.Site {
	return site(t, "_index.page", "", "a/_index.page", "", "a/b.page", "", "a/b.de.page", "", "a/c.page", "", "x/index.page", "", "x/f", "1", "x/g/h", "2")
}

// P3.8: what is wrong with a page of a site.
func TestCheckSite(t *testing.T) {
	wide := make([]api.Value, conf.MaxValues)
	for name, c := range map[string]struct {
		address string
		change  func(p *tree.Page)
		want    api.Errno
	}{
		"nothing":  {"/", func(p *tree.Page) {}, api.OK},
		"any path": {"/", func(p *tree.Page) { p.Path, p.Rest = "//A", strings.Repeat("x", api.MaxBody+1) }, api.OK},
		"any settings": {"/a/", func(p *tree.Page) {
			p.Settings = settings(t, `title 1; slug "A"; aliases "x"; menus {m 1}; cascade []`)
		}, api.OK},
		"settings of any kind":  {"/a/", func(p *tree.Page) { p.Settings = api.Value{} }, api.OK},
		"a section as a single": {"/a/c/", func(p *tree.Page) { p.Kind = tree.Section }, api.OK},
		"no language":           {"/a/", func(p *tree.Page) { p.Language, p.Key = "", "A" }, api.ErrName},
		"another language":      {"/a/", func(p *tree.Page) { p.Language = "fr" }, api.ErrName},
		"no key":                {"/a/", func(p *tree.Page) { p.Key = "A" }, api.ErrPath},
		"a key with a slash":    {"/a/", func(p *tree.Page) { p.Key = "a/" }, api.ErrPath},
		"no address":            {"/a/", func(p *tree.Page) { p.Address = "/a" }, api.ErrPath},
		"an empty address":      {"/a/", func(p *tree.Page) { p.Address = "" }, api.ErrPath},
		"a root elsewhere":      {"/", func(p *tree.Page) { p.Address = "/0/" }, api.ErrPath},
		"a root in a language":  {"/de/", func(p *tree.Page) { p.Address = "/" }, api.ErrPath},
		"a root in another one": {"/de/", func(p *tree.Page) { p.Address = "/en/" }, api.ErrPath},
		"no order":              {"/a/b/", func(p *tree.Page) { p.Address = "/a/d/" }, api.ErrOrder},
		"the address before":    {"/a/c/", func(p *tree.Page) { p.Address = "/a/b/" }, api.ErrOrder},
		"order of languages":    {"/x/", func(p *tree.Page) { p.Language = "de" }, api.ErrNone},
		"an earlier language":   {"/de/", func(p *tree.Page) { p.Language, p.Key = "en", "de" }, api.ErrOrder},
		"settings":              {"/a/", func(p *tree.Page) { p.Settings = api.Value{Kind: api.Day, Int: -1} }, api.ErrRange},
		"large settings":        {"/a/", func(p *tree.Page) { p.Settings = api.Value{Kind: api.List, Items: wide} }, api.ErrLarge},
		"an address twice":      {"/de/a/", func(p *tree.Page) { p.Address = "/a/" }, api.ErrOrder},
		"a key twice":           {"/a/c/", func(p *tree.Page) { p.Key = "a/b" }, api.ErrTwice},
		"a translation twice":   {"/a/c/", func(p *tree.Page) { p.Settings = settings(t, `translation "a/b"`) }, api.ErrTwice},
		"an empty translation":  {"/a/c/", func(p *tree.Page) { p.Settings = settings(t, `translation ""`) }, api.ErrTwice},
		"any translation":       {"/a/c/", func(p *tree.Page) { p.Settings = settings(t, `translation "A b"`) }, api.OK},
		"no translation":        {"/a/c/", func(p *tree.Page) { p.Settings = settings(t, `translation {}`) }, api.OK},
		"in another language":   {"/de/a/b/", func(p *tree.Page) { p.Settings = settings(t, `translation "x"`) }, api.OK},
		"no kind":               {"/a/", func(p *tree.Page) { p.Kind = -1 }, api.ErrForm},
		"the kind Other":        {"/x/", func(p *tree.Page) { p.Kind = tree.Other }, api.ErrForm},
		"a root of a kind":      {"/", func(p *tree.Page) { p.Kind = tree.Single }, api.ErrForm},
		"a bundle as a root":    {"/de/", func(p *tree.Page) { p.Kind = tree.Bundle }, api.ErrForm},
		"no section":            {"/a/c/", func(p *tree.Page) { p.Key = "b/c" }, api.ErrNone},
		"a section's kind":      {"/a/", func(p *tree.Page) { p.Kind = tree.Single }, api.ErrNone},
		"another key above":     {"/a/c/", func(p *tree.Page) { p.Key = "c" }, api.ErrNone},
		"two more parts":        {"/a/c/", func(p *tree.Page) { p.Address = "/a/c/d/" }, api.ErrNone},
		"another address above": {"/a/c/", func(p *tree.Page) { p.Address = "/b/c/" }, api.ErrNone},
		"no part above":         {"/x/", func(p *tree.Page) { p.Key = "a/x" }, api.ErrNone},
		"a slug":                {"/a/c/", func(p *tree.Page) { p.Address = "/a/d/" }, api.OK},
		"files of a section":    {"/a/", func(p *tree.Page) { p.Files = []string{"A"} }, api.ErrForm},
		"files of a single":     {"/a/b/", func(p *tree.Page) { p.Files = []string{"a/b/c"} }, api.ErrForm},
		"no file":               {"/x/", func(p *tree.Page) { p.Files[1] = "x//f" }, api.ErrPath},
		"a file elsewhere":      {"/x/", func(p *tree.Page) { p.Files[1] = "xy/f" }, api.ErrPath},
		"its key as a file":     {"/x/", func(p *tree.Page) { p.Files[0] = "x" }, api.ErrPath},
		"files not in order":    {"/x/", func(p *tree.Page) { slices.Reverse(p.Files) }, api.ErrOrder},
		"a file twice":          {"/x/", func(p *tree.Page) { p.Files[1] = p.Files[0] }, api.ErrOrder},
		"files of any form":     {"/x/", func(p *tree.Page) { p.Files = []string{"x/a", "x/a/b", "x/index.html", "x/index.page"} }, api.OK},
		"no files":              {"/x/", func(p *tree.Page) { p.Files = nil }, api.OK},
	} {
		s := example(t)
		if e := tree.CheckSite(changed(s, at(t, s, c.address), c.change)); e != c.want {
			t.Errorf("%s: error %d, want %d", name, e, c.want)
		}
	}
}

// P3.8: of several errors of a page the first one.
func TestCheckSiteOrder(t *testing.T) {
	s := example(t)
	changes := []struct {
		change func(p *tree.Page)
		want   api.Errno
	}{ // of /a/c/
		{func(p *tree.Page) { p.Files = []string{""} }, api.ErrForm},
		{func(p *tree.Page) { p.Address = "/a/c/d/" }, api.ErrNone},
		{func(p *tree.Page) { p.Kind = tree.Other }, api.ErrForm},
		{func(p *tree.Page) { p.Settings = settings(t, `translation "a/b"`) }, api.ErrTwice},
		{func(p *tree.Page) { p.Settings = api.Value{Kind: -1} }, api.ErrKind},
		{func(p *tree.Page) { p.Address = "/a/b/" }, api.ErrOrder},
		{func(p *tree.Page) { p.Address = "/a/b" }, api.ErrPath},
		{func(p *tree.Page) { p.Language = "fr" }, api.ErrName},
	}
	i := at(t, s, "/a/c/")
	for _, c := range changes {
		s = changed(s, i, c.change)
		if e := tree.CheckSite(s); e != c.want {
			t.Errorf("error %d, want %d", e, c.want)
		}
	}
	if e := tree.CheckSite(changed(s, i-1, func(p *tree.Page) { p.Kind = 7 })); e != api.ErrForm {
		t.Errorf("the page before: error %d", e)
	}
	if e := tree.CheckSite(changed(s, 0, func(p *tree.Page) { p.Language = "de" })); e != api.ErrForm {
		t.Errorf("no root: error %d", e)
	}
}

// P3.8: pages that are in each other's way in other places of the list.
func TestCheckSitePlaces(t *testing.T) {
	root := tree.Page{Language: "en", Address: "/", Kind: tree.Section}
	page := func(key, language, address string, kind int) tree.Page {
		return tree.Page{Key: key, Language: language, Address: address, Kind: kind}
	}
	for name, c := range map[string]struct {
		pages []tree.Page
		want  api.Errno
	}{
		"a root":                     {[]tree.Page{root}, api.OK},
		"nothing":                    {nil, api.ErrForm},
		"no root":                    {[]tree.Page{page("a", "fr", "/a/", tree.Section)}, api.ErrForm},
		"a root of another language": {[]tree.Page{page("", "de", "/de/", tree.Section)}, api.ErrForm},
		"the root's address":         {[]tree.Page{page("a", "en", "/", tree.Section), root}, api.ErrNone},
		"an address in two":          {[]tree.Page{root, page("de", "en", "/de/", tree.Single), page("", "de", "/de/", tree.Section)}, api.ErrTwice},
		"the root in another one":    {[]tree.Page{root, page("a", "de", "/", tree.Single)}, api.ErrTwice},
		"no root there":              {[]tree.Page{root, page("a", "de", "/de/a/", tree.Single)}, api.ErrNone},
		"a section that comes later": {[]tree.Page{root, page("a/b", "en", "/a/b/", tree.Single), page("a", "en", "/b/", tree.Section)}, api.ErrNone},
		"a section twice":            {[]tree.Page{root, page("a", "en", "/0/", tree.Section), page("a", "en", "/a/", tree.Section), page("a/b", "en", "/a/b/", tree.Single)}, api.ErrTwice},
		"a later section's error":    {[]tree.Page{root, page("s/x", "en", "/aa/", tree.Single), page("s", "en", "/a", tree.Section)}, api.ErrPath},
		"nothing but a slash":        {[]tree.Page{root, page("s/x", "en", "/aa/", tree.Single), page("s", "en", "/aa", tree.Section)}, api.ErrNone},
		"the same address":           {[]tree.Page{root, page("s/x", "en", "/aa/", tree.Single), page("s", "en", "/aa/", tree.Section)}, api.ErrNone},
		"two more parts in all":      {[]tree.Page{root, page("s/x", "en", "/aa/b/", tree.Single), page("s", "en", "/a", tree.Section)}, api.ErrNone},
		"no part in all":             {[]tree.Page{root, page("s/x", "en", "/a../", tree.Single), page("s", "en", "/a", tree.Section)}, api.ErrNone},
		"another beginning":          {[]tree.Page{root, page("s/x", "en", "/aa/", tree.Single), page("s", "en", "/b", tree.Section)}, api.ErrNone},
		"languages not in order":     {[]tree.Page{page("", "de", "/de/", tree.Section), root}, api.ErrOrder},
		"sections in a row":          {[]tree.Page{root, page("a", "en", "/b/", tree.Section), page("a/b", "en", "/b/c/", tree.Section), page("a/b/c", "en", "/b/c/d/", tree.Bundle)}, api.OK},
	} {
		if e := tree.CheckSite(tree.Site{Languages: both, Pages: c.pages}); e != c.want {
			t.Errorf("%s: error %d, want %d", name, e, c.want)
		}
	}
	many := []tree.Page{root}
	for i := range tree.MaxPages {
		many = append(many, page(fmt.Sprintf("p%04d", i), "en", fmt.Sprintf("/p%04d/", i), tree.Single))
	}
	if e := tree.CheckSite(tree.Site{Languages: both, Pages: many[:tree.MaxPages]}); e != api.OK {
		t.Errorf("as many as can be: error %d", e)
	}
	if e := tree.CheckSite(tree.Site{Languages: both, Pages: many}); e != api.ErrLarge {
		t.Errorf("too many: error %d", e)
	}
	if e := tree.CheckSite(tree.Site{Languages: both, Pages: make([]tree.Page, tree.MaxPages)}); e != api.ErrForm {
		t.Errorf("as many empty ones: error %d", e)
	}
}

// P3.8: all functions with a site return its error first.
func TestSiteErrorsFirst(t *testing.T) {
	good := example(t)
	bad := changed(good, 1, func(p *tree.Page) { p.Settings = api.Value{Kind: api.Day, Int: -1} })
	const far = 1_000_000
	large := make([]tree.Item, tree.MaxItems+1)
	l, e := tree.Menu(bad, "fr", "m", large)
	o, e2 := tree.Outputs(bad)
	f, e3 := tree.Facts(bad)
	m, e4 := tree.Moved(bad, tree.Site{})
	m2, e5 := tree.Moved(good, bad)
	n, text, e6 := tree.Resolve(bad, far, strings.Repeat("x", 1000))
	a, fault := tree.Aliases(bad)
	if got := fmt.Sprint(e, e2, e3, e4, e5, e6, fault.E); got != "2 2 2 2 2 2 2" || len(l)+len(o)+len(f)+len(m)+len(m2)+n+len(text)+len(a) > 0 || fault.Path != "" {
		t.Errorf("errors %s", got)
	}
	parent, e := tree.Parent(bad, 3)
	if e != api.ErrRange || parent != 0 || tree.Find(bad, "/") != -1 {
		t.Errorf("Parent: %d, error %d", parent, e)
	}
	for name, f := range map[string]func(s tree.Site, i int) ([]int, api.Errno){"Children": tree.Children, "Below": tree.Below, "Trail": tree.Trail, "Translations": tree.Translations} {
		if l, e := f(bad, far); e != api.ErrRange || len(l) > 0 {
			t.Errorf("%s: %v, error %d", name, l, e)
		}
	}
}
