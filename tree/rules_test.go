package tree_test

import (
	"fmt"
	"math"
	"math/rand"
	"slices"
	"strings"
	"sync"
	"testing"

	"masthead/api"
	"masthead/tree"
)

// arguments are those of all calls of callAll.
type arguments struct {
	files          []api.File
	sources        []tree.Source
	languages      []string
	site, before   tree.Site
	day, number    int
	language, text string
	extra          []tree.Item
}

// results are all that calls return that has lists.
type results struct {
	read     []tree.Source
	values   []api.Value
	hidden   []bool
	site     tree.Site
	numbers  [4][]int
	entries  []tree.Entry
	aliases  []tree.Alias
	moved    []tree.Alias
	outputs  []tree.Output
	facts    []api.Named
	errors   []api.Errno
	faults   []tree.Fault
	numbered []int
	texts    []string
}

// callAll calls each function.
func callAll(a arguments) results {
	var r results
	fault := func(f tree.Fault) { r.faults = append(r.faults, f) }
	failed := func(e api.Errno) { r.errors = append(r.errors, e) }
	var f tree.Fault
	r.read, f = tree.Read(a.files, a.languages)
	fault(f)
	fault(tree.CheckSources(a.sources, a.languages))
	r.values, r.hidden, f = tree.Effective(a.sources, a.languages, a.day)
	fault(f)
	r.site, f = tree.Publish(a.sources, a.languages, a.day)
	fault(f)
	var e api.Errno
	for i, call := range []func(s tree.Site, i int) ([]int, api.Errno){tree.Children, tree.Below, tree.Trail, tree.Translations} {
		r.numbers[i], e = call(a.site, a.number)
		failed(e)
	}
	r.entries, e = tree.Menu(a.site, a.language, a.text, a.extra)
	failed(e)
	r.aliases, f = tree.Aliases(a.site)
	fault(f)
	r.moved, e = tree.Moved(a.before, a.site)
	failed(e)
	r.outputs, e = tree.Outputs(a.site)
	failed(e)
	r.facts, e = tree.Facts(a.site)
	failed(e)
	parent, e := tree.Parent(a.site, a.number)
	failed(e)
	target, fragment, e := tree.Resolve(a.site, a.number, a.text)
	failed(e)
	failed(tree.CheckSite(a.site))
	failed(tree.CheckPath(a.text))
	failed(tree.CheckAddress(a.text))
	r.numbered = []int{parent, target, tree.Find(a.site, a.text)}
	r.texts = []string{fragment, tree.Slug(a.text), tree.TitleOf(a.text), tree.FactName(a.text)}
	for _, s := range a.sources {
		r.texts = append(r.texts, fmt.Sprint(tree.Hidden(s.Settings, a.day)))
	}
	return r
}

var strangeTexts = []string{"", "/", "m", "a", "..", "../b", "/a#x", "\x00", "A", "//", "en", "_index.page", "a/index.page", ".page", "a.de.page", "x/f", strings.Repeat("a/", 300), strings.Repeat("x", 3000), "\xff"}

func anyText(r *rand.Rand) string { return strangeTexts[r.Intn(len(strangeTexts))] }

func anyNumber(r *rand.Rand) int {
	return []int{0, 1, 2, 3, 100, -1, math.MinInt, math.MaxInt, api.MaxDay + 1}[r.Intn(9)]
}

// anyValue is a value with fields that fit or do not.
func anyValue(r *rand.Rand, depth int) api.Value {
	keys := []string{"", "A", "aliases", "cascade", "date", "draft", "expire", "menus", "publish", "slug", "title", "translation", "weight"}
	v := api.Value{Kind: r.Intn(10) - 1, Int: []int{0, 0, 1, -1}[r.Intn(4)], Text: []string{"", "", "a", "\x01"}[r.Intn(4)], Bool: r.Intn(4) == 0}
	if r.Intn(3) > 0 {
		v = api.Value{Kind: api.Table}
	}
	for i := range r.Intn(len(keys)) {
		if depth > 0 && r.Intn(3) == 0 {
			v.Keys, v.Items = append(v.Keys, keys[i]), append(v.Items, anyValue(r, depth-1))
		}
	}
	return v
}

// spoiltSource is a source of which something may be wrong.
func spoiltSource(r *rand.Rand, s tree.Source) tree.Source {
	switch r.Intn(8) {
	case 0:
		s.Path = anyText(r)
	case 1:
		s.Key = anyText(r)
	case 2:
		s.Kind = anyNumber(r)
	case 3:
		s.Settings = anyValue(r, 3)
	case 4:
		s.Language = anyText(r)
	}
	return s
}

// spoiltPage is a page of which something may be wrong.
func spoiltPage(r *rand.Rand, p tree.Page) tree.Page {
	switch r.Intn(9) {
	case 0:
		p.Address = anyText(r)
	case 1:
		p.Key = anyText(r)
	case 2:
		p.Kind = anyNumber(r)
	case 3:
		p.Settings = anyValue(r, 3)
	case 4:
		p.Language = anyText(r)
	case 5:
		p.Files = append(slices.Clone(p.Files), anyText(r))
	}
	return p
}

// anyArguments are arguments that are right or not.
func anyArguments(r *rand.Rand) arguments {
	a := arguments{files: randomFiles(r), languages: both, day: anyNumber(r), number: anyNumber(r), language: anyText(r), text: anyText(r)}
	a.sources, _ = tree.Read(a.files, both)
	a.site, _ = tree.Publish(a.sources, both, 100)
	a.before = a.site
	for range r.Intn(3) {
		a.extra = append(a.extra, tree.Item{Id: anyText(r), Parent: anyText(r), Weight: anyNumber(r)})
		if n := len(a.sources); n > 0 {
			a.sources[r.Intn(n)] = spoiltSource(r, a.sources[r.Intn(n)])
		}
		if n := len(a.site.Pages); n > 0 {
			i := r.Intn(n)
			a.site = changed(a.site, i, func(p *tree.Page) { *p = spoiltPage(r, *p) })
		}
		if n := len(a.files); n > 0 {
			a.files[r.Intn(n)].Path = anyText(r)
		}
	}
	if r.Intn(20) == 0 {
		a.languages, a.site.Languages = []string{anyText(r)}, []string{anyText(r), "en"}
	}
	return a
}

// Z1: no call panics, whatever it is given.
func TestNothingPanics(t *testing.T) {
	r := rand.New(rand.NewSource(9))
	for range 10_000 {
		callAll(anyArguments(r))
	}
	deep := api.Value{Kind: api.List}
	for range 100_000 {
		deep = api.Value{Kind: api.List, Items: []api.Value{deep}}
	}
	long := strings.Repeat("a/", 500_000)
	for _, s := range []string{long, long + "a.page", "/" + long, strings.Repeat("/", 1_000_000), strings.Repeat(".", 1_000_000)} {
		a := arguments{files: []api.File{{Path: s, Body: s}}, languages: []string{"en"}, language: s, text: s, extra: []tree.Item{{Id: s}}, day: 100}
		a.sources = []tree.Source{{Path: s, Key: s, Language: s, Settings: deep}}
		a.site = tree.Site{Languages: both, Pages: []tree.Page{{Language: "en", Address: "/", Kind: tree.Section, Files: []string{s}}, {Path: s, Key: s, Language: "en", Address: s, Settings: deep}}}
		callAll(a)
		a.sources = []tree.Source{{Path: "a.page", Key: "a", Language: "en", Settings: deep}}
		a.site.Pages[0] = tree.Page{Language: "en", Address: "/", Kind: tree.Section, Settings: deep}
		a.languages = []string{s}
		callAll(a)
	}
}

// full are arguments with which each function returns something.
func full(t *testing.T) arguments {
	t.Helper()
	a := arguments{languages: []string{"en", "de"}, day: 100, number: 0, language: "en", text: "m", extra: []tree.Item{{Id: "e", Title: "E", Parent: "a"}}}
	a.files = files("a/_index.page", `x {y [1]}; cascade {z [2 {w 3}]}; menus {m {}}; aliases ["old" "was"]`, "a/b.page", `menus {m {parent "a"}}`, "a/b.de.page", "", "c/index.page", "x [4]", "c/g", "1", "c/f", "2", "c/index.de.page", "x [5]", "d/e.page", `translation "t"`)
	a.sources = sources(t, "a/_index.page", `x {y [1]}; cascade {z [2 {w 3}]}; menus {m {}}; aliases ["old" "was"]`, "a/b.page", `menus {m {parent "a"}}`, "a/b.de.page", "", "a/c/d.page", "", "c/f", "2", "c/g", "1", "c/index.de.page", "x [5]", "c/index.page", "x [4]")
	a.site = site(t, "a/_index.page", `x {y [1]}; menus {m {}}; aliases ["old" "was"]; slug "s"`, "a/b.page", `menus {m {parent "a"}}; x [6 [7]]`, "a/b.de.page", "", "c/f", "2", "c/g", "1", "c/index.page", "x [4]")
	a.before = site(t, "a/b.page", "", "c/index.page", "x [8]", "c/f", "")
	return a
}

// reach visits all values of settings in arguments or results.
func reach(a *arguments, r *results, visit func(v *api.Value)) {
	for _, l := range [][]tree.Source{a.sources, r.read} {
		for i := range l {
			visit(&l[i].Settings)
		}
	}
	for _, s := range []tree.Site{a.site, a.before, r.site} {
		for i := range s.Pages {
			visit(&s.Pages[i].Settings)
		}
	}
	for i := range r.values {
		visit(&r.values[i])
	}
	for i := range r.facts {
		visit(&r.facts[i].Value)
	}
}

// spoil changes all that is in the memory of a list, also what is after its length.
func spoil[T any](l []T, x T) {
	l = l[:cap(l)]
	for i := range l {
		l[i] = x
	}
}

// spoilValue changes all that a value has.
func spoilValue(v *api.Value) {
	for i := range v.Items {
		spoilValue(&v.Items[i])
	}
	spoil(v.Items, api.Value{Kind: api.Int, Int: 66})
	spoil(v.Keys, "spoilt")
}

func spoilSite(s tree.Site) {
	for _, p := range s.Pages {
		spoil(p.Files, "spoilt")
	}
	spoil(s.Pages, tree.Page{Key: "spoilt"})
	spoil(s.Languages, "spoilt")
}

func spoilEntries(l []tree.Entry) {
	for _, x := range l {
		spoilEntries(x.Items)
	}
	spoil(l, tree.Entry{Id: "spoilt"})
}

// spoilResults changes all that calls have returned.
func spoilResults(r results) {
	reach(&arguments{}, &r, spoilValue)
	spoilSite(r.site)
	spoilEntries(r.entries)
	for _, l := range r.numbers {
		spoil(l, 66)
	}
	spoil(r.read, tree.Source{Path: "spoilt"})
	spoil(r.values, api.Value{Kind: 66})
	spoil(r.hidden, true)
	spoil(r.aliases, tree.Alias{From: "spoilt"})
	spoil(r.moved, tree.Alias{From: "spoilt"})
	spoil(r.outputs, tree.Output{Path: "spoilt"})
	spoil(r.facts, api.Named{Name: "spoilt"})
}

// spoilArguments changes all that calls have been given.
func spoilArguments(a arguments) {
	reach(&a, &results{}, spoilValue)
	spoilSite(a.site)
	spoilSite(a.before)
	spoil(a.files, api.File{Path: "spoilt"})
	spoil(a.sources, tree.Source{Path: "spoilt"})
	spoil(a.languages, "spoilt")
	spoil(a.extra, tree.Item{Id: "spoilt"})
}

// Z2: arguments stay as they are, and results are in memory of their own.
func TestArgumentsAndResults(t *testing.T) {
	a := full(t)
	before := show(a)
	r := callAll(a)
	want := show(r)
	if slices.Max(r.errors[:9]) != api.OK {
		t.Fatalf("errors %v, faults %+v", r.errors, r.faults)
	}
	if len(r.site.Pages) < 10 || len(r.facts) < 5 || len(r.moved) == 0 || len(r.aliases) == 0 || len(r.entries) == 0 || len(r.read) == 0 {
		t.Fatalf("not all functions return something: %s", want)
	}
	spoilResults(r)
	if after := show(a); after != before {
		t.Errorf("the arguments have changed:\n%s\n%s", before, after)
	}
	r = callAll(a)
	if got := show(r); got != want {
		t.Errorf("other results the second time:\n%s\n%s", want, got)
	}
	spoilArguments(a)
	if got := show(r); got != want {
		t.Errorf("results have changed with the arguments:\n%s\n%s", want, got)
	}
}

// Z2: what is after the length of a list stays as it is.
func TestBehindLists(t *testing.T) {
	a := full(t)
	behind := func(l []string) []string { return append(slices.Clone(l), "behind")[:len(l)] }
	a.languages, a.site.Languages = behind(a.languages), behind(a.site.Languages)
	a.files = append(slices.Clone(a.files), api.File{Path: "behind"})[:len(a.files)]
	a.extra = append(slices.Clone(a.extra), tree.Item{Id: "behind"})[:len(a.extra)]
	a.sources = append(slices.Clone(a.sources), tree.Source{Path: "behind"})[:len(a.sources)]
	for i := range a.site.Pages {
		a.site.Pages[i].Files = behind(a.site.Pages[i].Files)
	}
	callAll(a)
	lists := [][]string{a.languages, a.site.Languages}
	for _, p := range a.site.Pages {
		lists = append(lists, p.Files)
	}
	for _, l := range lists {
		if got := l[:len(l)+1][len(l)]; got != "behind" {
			t.Errorf("behind a list is %q", got)
		}
	}
	if a.files[:len(a.files)+1][len(a.files)].Path != "behind" || a.extra[:len(a.extra)+1][len(a.extra)].Id != "behind" || a.sources[:len(a.sources)+1][len(a.sources)].Path != "behind" {
		t.Error("what is behind a list has changed")
	}
}

// grow appends to all lists of settings of a value.
func grow(v *api.Value) {
	for i := range v.Items {
		grow(&v.Items[i])
	}
	_ = append(v.Items, api.Value{Kind: 66}, api.Value{Kind: 66})
	_ = append(v.Keys, "grown", "grown")
}

// Z2: to append to one list of a result, or to change it, changes no other one.
func TestResultsShareNoLists(t *testing.T) {
	a := full(t)
	r := callAll(a)
	want := show(r)
	reach(&arguments{}, &r, grow)
	for _, p := range r.site.Pages {
		_ = append(p.Files, "grown", "grown")
	}
	if got := show(r); got != want {
		t.Errorf("lists share memory:\n%s\n%s", want, got)
	}
	for i := range r.site.Pages {
		again := callAll(a).site
		spoil(again.Pages[i].Files, "spoilt")
		spoilValue(&again.Pages[i].Settings)
		again.Pages[i] = r.site.Pages[i]
		if show(again) != show(r.site) {
			t.Errorf("page %d shares memory with another one", i)
		}
	}
	for i := range r.values {
		again := callAll(a).values
		spoilValue(&again[i])
		again[i] = r.values[i]
		if show(again) != show(r.values) {
			t.Errorf("settings %d share memory with others", i)
		}
	}
}

// Z5: empty and nil lists are the same.
func TestEmptyLists(t *testing.T) {
	a, b := full(t), full(t)
	var empty func(v *api.Value)
	empty = func(v *api.Value) {
		if len(v.Items) == 0 {
			v.Items = []api.Value{}
		}
		if len(v.Keys) == 0 {
			v.Keys = []string{}
		}
		for i := range v.Items {
			empty(&v.Items[i])
		}
	}
	reach(&b, &results{}, empty)
	for i := range b.site.Pages {
		if len(b.site.Pages[i].Files) == 0 {
			b.site.Pages[i].Files = []string{}
		}
	}
	if got, want := show(callAll(b)), show(callAll(a)); got != want {
		t.Errorf("empty lists are not as nil ones are:\n%s\n%s", got, want)
	}
	c := arguments{files: []api.File{}, sources: []tree.Source{}, languages: []string{}, extra: []tree.Item{}, site: tree.Site{Languages: []string{}, Pages: []tree.Page{}}}
	if show(callAll(arguments{})) != show(callAll(c)) {
		t.Error("empty arguments are not as nil ones are")
	}
}

// Z3: beside an error all is zero.
func TestErrorsAlone(t *testing.T) {
	r := rand.New(rand.NewSource(10))
	for range 3000 {
		x := callAll(anyArguments(r))
		lengths := []int{len(x.numbers[0]), len(x.numbers[1]), len(x.numbers[2]), len(x.numbers[3]), len(x.entries), len(x.moved), len(x.outputs), len(x.facts), x.numbered[0], x.numbered[1] + len(x.texts[0])}
		for i, n := range lengths {
			if x.errors[i] != api.OK && n != 0 {
				t.Fatalf("result %d beside error %d", i, x.errors[i])
			}
		}
		for i, n := range []int{len(x.read), 0, len(x.values) + len(x.hidden), len(x.site.Pages) + len(x.site.Languages), len(x.aliases)} {
			if f := x.faults[i]; f.E != api.OK && n != 0 || f.E == api.OK && f != (tree.Fault{}) {
				t.Fatalf("result %d beside %+v", i, f)
			}
		}
	}
}

// Z7: the same arguments give the same results, in whatever order goroutines run.
func TestSameResults(t *testing.T) {
	r := rand.New(rand.NewSource(11))
	var all []arguments
	var want []string
	for range 200 {
		a := anyArguments(r)
		all, want = append(all, a), append(want, show(callAll(a)))
	}
	var wait sync.WaitGroup
	for range 8 {
		wait.Go(func() {
			for i, a := range all {
				if show(callAll(a)) != want[i] {
					t.Errorf("%+v has other results the second time", a)
				}
			}
		})
	}
	wait.Wait()
}

// Z6: a site as large as can be.
func TestLargeSite(t *testing.T) {
	pages := []tree.Page{{Language: "en", Address: "/", Kind: tree.Section}}
	for i := range tree.MaxPages - 1 {
		p := tree.Page{Key: fmt.Sprintf("p%04d", i), Language: "en", Address: fmt.Sprintf("/p%04d/", i), Kind: tree.Bundle, Settings: settings(t, `menus {m {}}; aliases ["`+fmt.Sprint("a", i)+`"]`)}
		p.Files = []string{p.Key + "/f"}
		pages = append(pages, p)
	}
	a := arguments{site: tree.Site{Languages: both, Pages: pages}, before: tree.Site{Languages: both, Pages: pages}, language: "en", text: "m"}
	r := callAll(a)
	if len(r.facts) != tree.MaxPages || len(r.outputs) != 2*tree.MaxPages-1 || len(r.entries) != tree.MaxPages-1 || len(r.aliases) != tree.MaxPages-1 || len(r.numbers[0]) != tree.MaxPages-1 {
		t.Errorf("%v, %+v", r.errors, r.faults)
	}
}
