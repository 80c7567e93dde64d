package tree_test

import (
	"fmt"
	"math"
	"math/rand"
	"slices"
	"strings"
	"testing"

	"masthead/api"
	"masthead/tree"
)

// named writes pages by their addresses.
func named(s tree.Site, l []int) string {
	var out []string
	for _, i := range l {
		out = append(out, s.Pages[i].Address)
	}
	return strings.Join(out, " ")
}

// P3.9: Find.
func TestFind(t *testing.T) {
	s := example(t)
	for i, p := range s.Pages {
		if got := tree.Find(s, p.Address); got != i {
			t.Errorf("%s: %d, want %d", p.Address, got, i)
		}
	}
	for _, address := range []string{"", "a", "/a", "/A/", "/b/", "/en/", "/a/b", "//"} {
		if got := tree.Find(s, address); got != -1 {
			t.Errorf("%q: %d", address, got)
		}
	}
	if got := tree.Find(tree.Site{}, "/"); got != -1 {
		t.Errorf("no site: %d", got)
	}
}

// P3.9: Parent, Children, Below, Trail, Translations.
func TestWalk(t *testing.T) {
	s := site(t, "a/b/c.page", "", "a/b/d/index.page", "", "a/b/d.de.page", "slug \"z\"", "a/_index.page", "slug \"s\"", "e.page", "translation \"t\"", "f.de.page", "translation \"t\"", "a-b.page", "")
	for address, want := range map[string][5]string{
		"/":          {"", "/a-b/ /e/ /s/", "/a-b/ /e/ /s/ /s/b/ /s/b/c/ /s/b/d/", "/", "/ /de/"},
		"/s/":        {"/", "/s/b/", "/s/b/ /s/b/c/ /s/b/d/", "/ /s/", "/s/ /de/a/"},
		"/s/b/":      {"/s/", "/s/b/c/ /s/b/d/", "/s/b/c/ /s/b/d/", "/ /s/ /s/b/", "/s/b/ /de/a/b/"},
		"/s/b/d/":    {"/s/b/", "", "", "/ /s/ /s/b/ /s/b/d/", "/s/b/d/ /de/a/b/z/"},
		"/s/b/c/":    {"/s/b/", "", "", "/ /s/ /s/b/ /s/b/c/", "/s/b/c/"},
		"/e/":        {"/", "", "", "/ /e/", "/e/ /de/f/"},
		"/de/":       {"", "/de/a/ /de/f/", "/de/a/ /de/a/b/ /de/a/b/z/ /de/f/", "/de/", "/ /de/"},
		"/de/f/":     {"/de/", "", "", "/de/ /de/f/", "/e/ /de/f/"},
		"/de/a/b/z/": {"/de/a/b/", "", "", "/de/ /de/a/ /de/a/b/ /de/a/b/z/", "/s/b/d/ /de/a/b/z/"},
		"/a-b/":      {"/", "", "", "/ /a-b/", "/a-b/"},
		"/de/a/":     {"/de/", "/de/a/b/", "/de/a/b/ /de/a/b/z/", "/de/ /de/a/", "/s/ /de/a/"},
		"/de/a/b/":   {"/de/a/", "/de/a/b/z/", "/de/a/b/z/", "/de/ /de/a/ /de/a/b/", "/s/b/ /de/a/b/"},
	} {
		i := at(t, s, address)
		parent, e := tree.Parent(s, i)
		if want[0] == "" && parent != -1 || want[0] != "" && (parent < 0 || s.Pages[parent].Address != want[0]) || e != api.OK {
			t.Errorf("Parent of %s: %d, error %d", address, parent, e)
		}
		for k, f := range []func(s tree.Site, i int) ([]int, api.Errno){tree.Children, tree.Below, tree.Trail, tree.Translations} {
			l, e := f(s, i)
			if got := named(s, l); e != api.OK || got != want[k+1] {
				t.Errorf("function %d of %s: %s, error %d; want %s", k, address, got, e, want[k+1])
			}
		}
	}
}

// P3.9: translations of three languages, by a translation key or by a key.
func TestManyTranslations(t *testing.T) {
	languages := []string{"de", "en", "fr"}
	l, f := tree.Read(files("a.page", "", "b.en.page", `translation "a"`, "c.fr.page", `translation "a"`, "a.fr.page", "translation \"x\""), languages)
	s, f2 := tree.Publish(l, languages, 0)
	if f.E != api.OK || f2.E != api.OK {
		t.Fatal(f, f2)
	}
	for address, want := range map[string]string{"/a/": "/a/ /en/b/ /fr/c/", "/en/b/": "/a/ /en/b/ /fr/c/", "/fr/c/": "/a/ /en/b/ /fr/c/", "/fr/a/": "/fr/a/", "/": "/ /en/ /fr/"} {
		l, e := tree.Translations(s, at(t, s, address))
		if got := named(s, l); e != api.OK || got != want {
			t.Errorf("%s: %s, error %d; want %s", address, got, e, want)
		}
	}
}

// P3.8, P3.9: there is no page with a number.
func TestNoPage(t *testing.T) {
	s := example(t)
	for _, i := range []int{-1, len(s.Pages), math.MinInt, math.MaxInt} {
		if n, e := tree.Parent(s, i); e != api.ErrNone || n != 0 {
			t.Errorf("Parent of %d: %d, error %d", i, n, e)
		}
		if n, text, e := tree.Resolve(s, i, strings.Repeat("#", 1000)); e != api.ErrNone || n != 0 || text != "" {
			t.Errorf("Resolve from %d: error %d", i, e)
		}
		for k, f := range []func(s tree.Site, i int) ([]int, api.Errno){tree.Children, tree.Below, tree.Trail, tree.Translations} {
			if l, e := f(s, i); e != api.ErrNone || len(l) > 0 {
				t.Errorf("function %d of %d: %v, error %d", k, i, l, e)
			}
		}
	}
}

// P3.9: what follows, in any site: translations are so both ways, and each page but the roots is a child of one.
func TestRandomWalks(t *testing.T) {
	for _, s := range randomSites(t, rand.New(rand.NewSource(5)), 300) {
		parents := make([]int, len(s.Pages))
		for i := range s.Pages {
			children, _ := tree.Children(s, i)
			below, _ := tree.Below(s, i)
			var all []int
			for _, j := range children {
				parents[j]++
				inner, _ := tree.Below(s, j)
				all = append(append(all, j), inner...)
				if p, e := tree.Parent(s, j); p != i || e != api.OK || !strings.HasPrefix(s.Pages[j].Address, s.Pages[i].Address) {
					t.Fatalf("the parent of %d is %d, not %d", j, p, i)
				}
				up, _ := tree.Trail(s, i)
				if trail, _ := tree.Trail(s, j); !slices.Equal(trail, append(up, j)) {
					t.Fatalf("Trail: %v", trail)
				}
			}
			slices.Sort(all)
			if !slices.Equal(all, below) || !slices.IsSorted(children) {
				t.Fatalf("Below: %v, want %v", below, all)
			}
			l, _ := tree.Translations(s, i)
			for _, j := range l {
				if other, _ := tree.Translations(s, j); !slices.Equal(l, other) || !slices.Contains(l, i) {
					t.Fatalf("Translations: %v and %v", l, other)
				}
			}
		}
		for i, n := range parents {
			if s.Pages[i].Key == "" && n != 0 || s.Pages[i].Key != "" && n != 1 {
				t.Fatalf("%s is a child of %d pages", s.Pages[i].Address, n)
			}
		}
	}
}

// P3.10: Resolve.
func TestResolve(t *testing.T) {
	s := site(t, "a/_index.page", "slug \"s\"", "a/b.page", "", "a/c/d.page", "slug \"t\"", "x/index.page", "", "a.de.page", "", "y.z/_w.page", "", "only.page", "")
	for _, c := range [][3]string{
		{"/s/b/", "", "/s/b/"}, {"/s/b/", "b", "/s/b/"}, {"/s/b/", "c", "/s/c/"}, {"/s/b/", "c/d", "/s/c/t/"}, {"/s/b/", "..", "/"}, {"/s/b/", "../x", "/x/"}, {"/s/b/", "../a", "/s/"}, {"/s/b/", "../a/../a/c", "/s/c/"}, {"/s/b/", "c/..", "/s/"}, {"/s/b/", "c/../..", "/"}, {"/s/b/", "nothing/..", "/s/"},
		{"/s/", "b", "/s/b/"}, {"/s/", "", "/s/"}, {"/s/", "..", "/"}, {"/s/", "../only", "/only/"}, {"/s/c/", "d", "/s/c/t/"}, {"/s/c/t/", "d", "/s/c/t/"}, {"/", "a/b", "/s/b/"}, {"/", "", "/"}, {"/", "x", "/x/"}, {"/only/", "a", "/s/"}, {"/only/", "x", "/x/"},
		{"/x/", "..", "/"}, {"/x/", "../a", "/s/"}, {"/x/", "", "/x/"}, {"/s/b/", "/", "/"}, {"/s/b/", "/a", "/s/"}, {"/s/b/", "/a/b", "/s/b/"}, {"/s/b/", "/y.z/_w", "/y.z/_w/"}, {"/s/b/", "/a/c/d", "/s/c/t/"},
		{"/de/a/", "", "/de/a/"}, {"/de/a/", "a", "/de/a/"}, {"/de/a/", "/", "/de/"}, {"/de/a/", "/a", "/de/a/"}, {"/de/a/", "a/b", "/s/b/"}, {"/de/a/", "/x", "/x/"}, {"/de/", "..a", ""}, {"/de/", "only", "/only/"}, {"/de/", "a/..", "/de/"}, {"/s/b/", "/a/../x", "/x/"},
	} {
		for _, fragment := range []string{"", "#", "#f", "#f#g", "#\x00 /\xff"} {
			i, text, e := tree.Resolve(s, at(t, s, c[0]), c[1]+fragment)
			if c[2] == "" {
				if e != api.ErrNone || i != 0 || text != "" {
					t.Errorf("%q in %s: %d, %q, error %d", c[1]+fragment, c[0], i, text, e)
				}
				continue
			}
			if e != api.OK || s.Pages[i].Address != c[2] || text != strings.TrimPrefix(fragment, "#") {
				t.Errorf("%q in %s: %d, %q, error %d; want %s", c[1]+fragment, c[0], i, text, e, c[2])
			}
		}
	}
}

// P3.10: errors of Resolve.
func TestResolveErrors(t *testing.T) {
	s := example(t)
	for ref, want := range map[string]api.Errno{
		"../..": api.ErrPath, "../../a": api.ErrPath, "../../..": api.ErrPath, "/..": api.ErrPath, "A": api.ErrPath, "a/": api.ErrPath, "a//b": api.ErrPath, "//": api.ErrPath, "//a": api.ErrPath, "/a/": api.ErrPath, ".": api.ErrPath, "./b": api.ErrPath, "b/.": api.ErrPath, "b c": api.ErrPath, " ": api.ErrPath, "b?x": api.ErrPath, "http://x": api.ErrPath, "A#f": api.ErrPath, "none/A": api.ErrPath, strings.Repeat("x", 41): api.ErrPath, "/A/..": api.ErrPath,
		"none": api.ErrNone, "/none": api.ErrNone, "/b": api.ErrNone, "b/c": api.ErrNone, "../b": api.ErrNone, "none#f": api.ErrNone, "...": api.ErrNone, "/x/f": api.ErrNone, "/index": api.ErrNone, "/de": api.ErrNone, strings.Repeat("x/", 199) + "x": api.ErrNone,
		strings.Repeat("x", tree.MaxRef+1): api.ErrLarge, "b#" + strings.Repeat("x", tree.MaxRef-1): api.ErrLarge, strings.Repeat("/", tree.MaxRef+1): api.ErrLarge,
	} {
		i, text, e := tree.Resolve(s, at(t, s, "/a/b/"), ref)
		if e != want || i != 0 || text != "" {
			t.Errorf("%.50q: %d, %q, error %d; want error %d", ref, i, text, e, want)
		}
	}
	if i, text, e := tree.Resolve(s, at(t, s, "/a/b/"), "b#"+strings.Repeat("x", tree.MaxRef-2)); e != api.OK || i != at(t, s, "/a/b/") || len(text) != tree.MaxRef-2 {
		t.Errorf("a reference as long as can be: error %d", e)
	}
	for address, want := range map[string]api.Errno{"/": api.ErrPath, "/a/": api.OK, "/x/": api.OK, "/de/": api.ErrPath, "/de/a/b/": api.OK} {
		if _, _, e := tree.Resolve(s, at(t, s, address), ".."); e != want {
			t.Errorf("up from %s: error %d, want %d", address, e, want)
		}
	}
}

// P3.10: a reference of many parts that go up and down.
func TestResolveManyParts(t *testing.T) {
	var parts []string
	for range 50 {
		parts = append(parts, "a", "..")
	}
	ref := strings.Join(append(parts, "a"), "/")
	s := example(t)
	if i, _, e := tree.Resolve(s, 0, ref); e != api.OK || s.Pages[i].Address != "/a/" {
		t.Error(fmt.Sprint(len(ref), " bytes: error ", e))
	}
}
