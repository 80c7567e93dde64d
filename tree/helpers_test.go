package tree_test

import (
	"fmt"
	"math/rand"
	"slices"
	"strings"
	"testing"

	"masthead/api"
	"masthead/conf"
	"masthead/tree"
)

var both = []string{"en", "de"}

// body is that of a page with settings.
func body(settings string) string { return "%%%\n" + settings + "\n%%%\nbody\n" }

// files are files of paths and settings (of other files: bodies), in turn.
func files(l ...string) []api.File {
	var out []api.File
	for i := 0; i < len(l); i += 2 {
		file := api.File{Path: l[i], Body: l[i+1]}
		if strings.HasSuffix(l[i], ".page") && l[i+1] != "" {
			file.Body = body(l[i+1])
		}
		out = append(out, file)
	}
	return out
}

// settings is the table of a string that is known to be right.
func settings(t *testing.T, s string) api.Value {
	t.Helper()
	v, pos, e := conf.Parse(s)
	if e != api.OK {
		t.Fatalf("Parse(%q): error %d at %v", s, e, pos)
	}
	return v
}

// numbers are settings with so many values in all, with keys that begin with a letter.
func numbers(letter string, values int) string {
	var l []string
	for i := range values - 1 {
		l = append(l, fmt.Sprint(letter, i, " 1"))
	}
	return strings.Join(l, "; ")
}

// sources are those of files that can be read.
func sources(t *testing.T, l ...string) []tree.Source {
	t.Helper()
	s, f := tree.Read(files(l...), both)
	if f.E != api.OK {
		t.Fatalf("Read of %q: %+v", l, f)
	}
	return s
}

// site is that of files that can be published on day 100.
func site(t *testing.T, l ...string) tree.Site {
	t.Helper()
	s, f := tree.Publish(sources(t, l...), both, 100)
	if f.E != api.OK {
		t.Fatalf("Publish of %q: %+v", l, f)
	}
	return s
}

// show writes anything as a line; empty and nil lists are the same.
func show(x any) string { return fmt.Sprintf("%+v", x) }

// written is how settings are written, in one line.
func written(v api.Value) string {
	s, e := conf.Print(v)
	if e != api.OK {
		return fmt.Sprint("error ", e)
	}
	return strings.TrimSuffix(strings.ReplaceAll(strings.ReplaceAll(s, "\n", ";"), "  ", ""), ";")
}

// addresses are those of all pages.
func addresses(s tree.Site) string {
	var l []string
	for _, p := range s.Pages {
		l = append(l, p.Address)
	}
	return strings.Join(l, " ")
}

// at is the number of the page with an address, which must be there.
func at(t *testing.T, s tree.Site, address string) int {
	t.Helper()
	i := slices.IndexFunc(s.Pages, func(p tree.Page) bool { return p.Address == address })
	if i < 0 {
		t.Fatalf("there is no page %s: %s", address, addresses(s))
	}
	return i
}

// changed is a site in which one page has been changed.
func changed(s tree.Site, i int, change func(p *tree.Page)) tree.Site {
	s.Pages = slices.Clone(s.Pages)
	change(&s.Pages[i])
	return s
}

// expectFault checks a fault, and that a result that is written beside it is zero.
func expectFault(t *testing.T, name string, got tree.Fault, path string, want api.Errno, beside ...int) {
	t.Helper()
	if got != (tree.Fault{Path: path, E: want}) {
		t.Errorf("%s: %+v; want error %d at %q", name, got, want, path)
	}
	for _, n := range beside {
		if n != 0 {
			t.Errorf("%s: a result beside the fault is not zero", name)
		}
	}
}

// randomSettings are settings that have something to do with the day 100.
func randomSettings(r *rand.Rand, path string) string {
	all := []string{"draft yes", "draft no", "date 1970-04-12", "date 1970-04-10", "publish 1970-05-01", "expire 1970-04-11", "title \"T\"", "weight 3", "menus {m {}}", "menus {m {weight 2; parent \"a\"}}", "x 1", "y {z 2}"}
	if !strings.HasPrefix(path, "_index") {
		all = append(all, "slug \"b\"", "slug \"s\"")
	}
	if strings.Contains(path, "_index") {
		all = append(all, "cascade {draft yes}", "cascade {draft no}", "cascade {date 1970-04-12; x 2}", "cascade {expire 1970-04-12; y {w 3}}", "cascade {title \"C\"}")
	}
	all = append(all, "translation \"t\"", "aliases [\"old\"]", "aliases [\"/was/\" \"old/er\"]")
	var l []string
	used := map[string]bool{}
	for range r.Intn(4) {
		s := all[r.Intn(len(all))]
		if key, _, _ := strings.Cut(s, " "); !used[key] {
			used[key] = true
			l = append(l, s)
		}
	}
	return strings.Join(l, "; ")
}

// randomFiles are files that are mostly right, each path once.
func randomFiles(r *rand.Rand) []api.File {
	names := []string{"_index.page", "_index.en.page", "_index.de.page", "a.page", "b.page", "b.de.page", "c.en.page"}
	directories := []string{"", "a/", "a/b/", "d/", "d/e/", "de/"}
	bundles := []string{"x/", "a/x/"}
	var l []string
	used := map[string]bool{}
	add := func(path, text string) {
		if !used[path] {
			used[path] = true
			l = append(l, path, text)
		}
	}
	for range r.Intn(8) {
		path := directories[r.Intn(len(directories))] + names[r.Intn(len(names))]
		add(path, randomSettings(r, path))
	}
	for range r.Intn(3) {
		bundle := bundles[r.Intn(len(bundles))]
		path := bundle + []string{"index.page", "index.de.page"}[r.Intn(2)]
		add(path, randomSettings(r, path))
		add(bundle+[]string{"f.png", "g/h.css", "index.htm"}[r.Intn(3)], "file")
	}
	return files(l...)
}

// randomSites are sites that have been published.
func randomSites(t *testing.T, r *rand.Rand, many int) []tree.Site {
	t.Helper()
	var l []tree.Site
	for tries := 0; len(l) < many; tries++ {
		s, f := tree.Read(randomFiles(r), both)
		if f.E != api.OK {
			continue
		}
		if site, f := tree.Publish(s, both, 100); f.E == api.OK {
			l = append(l, site)
		}
		if tries > 100*many {
			t.Fatal("few random files can be published")
		}
	}
	return l
}
