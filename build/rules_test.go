package build_test

import (
	"fmt"
	"math"
	"math/rand"
	"reflect"
	"slices"
	"strings"
	"sync"
	"testing"
	"time"

	"masthead/api"
	"masthead/build"
	"masthead/conf"
	"masthead/lang"
	"masthead/mark"
	"masthead/page"
	"masthead/tmpl"
	"masthead/tree"
)

// arguments are those of all calls of callAll.
type arguments struct {
	before, job          build.Job // that is built first, and then
	facts                []api.Named
	name                 string
	content              page.Content
	first, second        api.Value
	settings             string
	files                []api.File
	small                bool
	site                 tree.Site
	language, menu, kind string
	size, day            int
	address, path        string
}

// results are all that calls return.
type results struct {
	checked   build.Fault
	report    build.Report
	outs      []api.Out
	content   page.Content
	reads     []string
	copied    []api.Out
	affected  []string
	fact      api.Value
	made      api.Value
	same      bool
	settings  build.Settings
	set       []tmpl.Source
	languages []lang.Language
	assets    []api.Named
	assetOuts []api.Out
	menu      api.Named
	pages     []api.Named
	pageWants []build.Want
	terms     []api.Named
	termWants []build.Want
	loaded    build.Job
	found     [3]bool // a fact, a content, reads
	faults    [6]build.Fault
	errors    [4]api.Errno
}

// callAll calls each function.
func callAll(a arguments) results {
	var r results
	b := build.New()
	b.Build(a.before)
	r.checked = build.CheckJob(a.job)
	r.affected, r.faults[0] = build.Affected(b, a.job)
	r.report, r.faults[1] = b.Build(a.job)
	r.outs, r.copied = b.Outs(), b.Copy().Outs()
	r.content, r.found[1] = b.Content(a.address)
	r.reads, r.found[2] = b.Reads(a.path)
	r.fact, r.found[0] = build.Fact(a.facts, a.name)
	r.made, r.same = build.ContentFact(a.content), build.SameValue(a.first, a.second)
	r.settings, r.errors[0] = build.ReadSettings(a.settings)
	r.set, r.faults[2] = build.Templates(a.files)
	r.languages, r.faults[3] = build.Strings(a.files)
	r.assets, r.assetOuts, r.faults[4] = build.Assets(a.files, a.small)
	r.menu, r.errors[1] = build.MenuFact(a.site, a.language, a.menu)
	r.pages, r.pageWants, r.errors[2] = build.PageOutputs(a.site, a.size)
	r.terms, r.termWants, r.errors[3] = build.TermOutputs(a.site, a.kind)
	r.loaded, r.faults[5] = build.Load(a.files, a.day)
	return r
}

func anyNumber(r *rand.Rand) int {
	return pick(r, []int{0, 1, 2, 100, -1, 101, api.MaxDay, api.MaxDay + 1, math.MinInt, math.MaxInt})
}

var strange = []string{"", "a", "en", "de", "tags", "main", "A", "/", "/a/", "a/b", "page:/", "content:/", "template:a", "x y", "\x00", "\xff", "\n", "title 1", "title \"x\"", "page 2", "{{", "{{ . }}", "{< a />}", wide(41), wide(201)}

// anyArguments are arguments that are right or not.
func anyArguments(r *rand.Rand) arguments {
	base := build.Job{Set: slices.Clone(someTemplates)}
	a := arguments{
		name: pick(r, someNames), content: page.Content{HTML: pick(r, strange), Contents: make([]mark.Entry, r.Intn(3))}, first: anyValue(r, 3), second: anyValue(r, 3), settings: pick(r, strange),
		files: anyFiles(r), small: r.Intn(2) == 0, language: pick(r, words("en de fr")), menu: pick(r, strange), kind: pick(r, words("tags tags x X")), size: anyNumber(r), day: anyNumber(r), address: pick(r, someAddresses), path: pick(r, someOuts),
	}
	for range r.Intn(6) {
		alter(r, &base)
	}
	a.before = base
	for range r.Intn(6) {
		alter(r, &base)
	}
	a.job, a.facts = base, base.Facts
	for r.Intn(3) == 0 {
		a.files = append(a.files, api.File{Path: pick(r, words("site.set content content/ template/ template/layout/ asset/ asset string/ x")) + pick(r, strange), Body: pick(r, strange)})
	}
	a.site, _ = anySite(r)
	if len(a.site.Pages) > 0 && r.Intn(3) == 0 {
		p := &a.site.Pages[r.Intn(len(a.site.Pages))]
		switch r.Intn(4) {
		case 0:
			p.Settings = anyValue(r, 3)
		case 1:
			p.Kind = anyNumber(r)
		case 2:
			p.Address = pick(r, strange)
		default:
			p.Key = pick(r, strange)
		}
	}
	return a
}

// Z1: no call panics, whatever it is given.
func TestNothingPanics(t *testing.T) {
	r := rand.New(rand.NewSource(8))
	for range 2000 {
		callAll(anyArguments(r))
	}
	const many = 200_000
	for _, s := range []string{"a/", "/", "{{", "\x00", "content:", "{< a >}\n", "[x](ref:", "\"", "en"} {
		s = strings.Repeat(s, many)
		j := build.Job{Set: set(s, s), Facts: named(s, text(s)), Bodies: bodies(s, s), Wants: wants(s, s, s), Copies: outs(s, s)}
		a := arguments{before: j, job: j, facts: j.Facts, name: s, content: page.Content{HTML: s, Contents: []mark.Entry{{Text: s}}}, first: text(s), second: text(s), settings: s, site: tree.Site{Languages: []string{s}}, language: s, menu: s, kind: s, address: s, path: s}
		a.files = files(s, s, "content/"+s, s, "template/"+s, s, "asset/"+s, s, "string/"+s, s, "site.set", s, "content/a.page", s, "template/a.html", s, "asset/a", s, "string/a.set", s)
		callAll(a)
		for _, change := range []func(j *build.Job){func(j *build.Job) { j.Set = nil }, func(j *build.Job) { j.Facts = nil }, func(j *build.Job) { j.Bodies = bodies("/", s) }, func(j *build.Job) { j.Bodies = nil }, func(j *build.Job) { j.Wants = append(wants("a", "", ""), j.Wants...) }, func(j *build.Job) { j.Wants = nil }, func(j *build.Job) { j.Copies = append(outs("a", s), j.Copies...) }, func(j *build.Job) { j.Copies = nil }} {
			change(&a.job)
			callAll(a)
		}
	}
	large := build.Job{Facts: make([]api.Named, many), Bodies: make([]build.Body, many), Wants: make([]build.Want, many), Copies: make([]api.Out, many)}
	callAll(arguments{job: large, facts: large.Facts, name: "x", first: list(make([]api.Value, many)...), second: list(make([]api.Value, many)...), files: make([]api.File, many), site: tree.Site{Languages: words("en"), Pages: make([]tree.Page, many)}})
	large = build.Job{Set: make([]tmpl.Source, many)}
	callAll(arguments{job: large, content: page.Content{Contents: make([]mark.Entry, many)}, site: tree.Site{Languages: make([]string, many)}})
	deepJob := build.Job{Set: set("a", "{{ . }}", "b", `{{ len(.) }}`), Facts: named("x", deep(many)), Wants: wants("b", "b", "x")}
	deepSite := manyPages(2)
	deepSite.Pages[1].Settings = deep(many)
	callAll(arguments{before: deepJob, job: deepJob, facts: deepJob.Facts, name: "x", first: deep(many), second: deep(many), site: deepSite, kind: "tags", language: "en"})
}

// full are arguments with which each function returns something.
func full(t *testing.T) arguments {
	j := base()
	j.Bodies[1].Text = "{< s />}\n# H\n\n[x](ref:none) *d*\n"
	j.Facts = append(j.Facts, named("z", list(table("a", texts("b", "c"), "d", list(list(number(1))))))...)
	j.Wants = append(j.Wants, wants("z", "layout", "z2", "zz", "layout", "z")...)
	j.Set[2].Text = "{{ .content }}{{ fact(\"z\") }}"
	j.Set[2].Text = "{{ len(fact(\"z\")) }}{{ .x }}"
	before := base()
	before.Bodies[1].Text = "x\n"
	before.Wants = append(wants("0", "words", ""), before.Wants...)
	before.Copies = outs("copy", "0", "gone", "")
	l := append(siteFiles(), files("content/e/f.page", front(`menus { main { parent "a" } }; tags ["y" "x"]; own { a [1 [2 3]] }`, ""), "asset/t.txt", "")...)
	return arguments{
		before: before, job: j, facts: j.Facts, name: "z", content: page.Content{Contents: make([]mark.Entry, 2), Reads: words("a b"), Broken: words("c")},
		first: deep(3), second: deep(3), settings: `languages ["en" "de"]; terms ["a" "b"]; menus ["c"]; x [1 [2]]`, files: l, small: true,
		site: site(t, "en de", "_index.page", "", "a.page", front(`menus { main {} }; tags "x"`, ""), "b.page", front(`menus { main { parent "a" } }; tags ["x" "y"]`, ""), "c.page", ""), language: "en", menu: "main", kind: "tags", size: 2, day: 1, address: "/a/", path: "all",
	}
}

// span is the memory of a list, with what is after its length.
type span struct {
	from, to uintptr
	where    string
}

// spans are those of all lists in a value.
func spans(v reflect.Value, where string) []span {
	var l []span
	switch v.Kind() {
	case reflect.Struct:
		for i := range v.NumField() {
			l = append(l, spans(v.Field(i), where+"."+v.Type().Field(i).Name)...)
		}
	case reflect.Slice, reflect.Array:
		if v.Kind() == reflect.Slice && v.Cap() > 0 {
			l = append(l, span{v.Pointer(), v.Pointer() + uintptr(v.Cap())*v.Type().Elem().Size(), where})
		}
		for i := range v.Len() {
			l = append(l, spans(v.Index(i), fmt.Sprint(where, ".", i))...)
		}
	}
	return l
}

// Z2: arguments stay as they are, and results are in memory of their own, no two lists of them in the same.
func TestArgumentsAndResults(t *testing.T) {
	a := full(t)
	before := show(a)
	r := callAll(a)
	if slices.ContainsFunc(r.faults[:], func(f build.Fault) bool { return f != none }) || r.checked != none || slices.ContainsFunc(r.errors[:], func(e api.Errno) bool { return e != api.OK }) || r.found != [3]bool{true, true, true} {
		t.Fatalf("faults %v, errors %v, found %v", r.faults, r.errors, r.found)
	}
	if after := show(a); after != before {
		t.Errorf("the arguments have changed:\n%s\n%s", before, after)
	}
	if got, want := show(callAll(a)), show(callAll(full(t))); got != want {
		t.Errorf("other results the second time:\n%s\n%s", want, got)
	}
	results := spans(reflect.ValueOf(r), "result")
	if len(results) < 100 {
		t.Errorf("only %d lists", len(results))
	}
	all := append(results, spans(reflect.ValueOf(a), "argument")...)
	for i, x := range results {
		for _, y := range all[i+1:] {
			if x.from < y.to && y.from < x.to {
				t.Errorf("%s and %s share memory", x.where, y.where)
			}
		}
	}
}

// wipe makes all that lists have in a value something else.
func wipe(v reflect.Value) {
	switch v.Kind() {
	case reflect.Struct:
		for i := range v.NumField() {
			wipe(v.Field(i))
		}
	case reflect.Slice:
		for i := range v.Len() {
			wipe(v.Index(i))
			if v.Index(i).Kind() == reflect.String {
				v.Index(i).SetString("wiped")
			}
		}
		for i := range v.Len() {
			v.Index(i).SetZero()
		}
	}
}

// Z2: a builder keeps no list that it is given, nor one that it has given away.
func TestNothingKept(t *testing.T) {
	a := full(t)
	b := build.New()
	given := full(t).job
	rep, f := b.Build(given)
	if f != none {
		t.Fatal(f)
	}
	wipe(reflect.ValueOf(given))
	outs := b.Outs()
	content, _ := b.Content("/a/")
	reads, _ := b.Reads("all")
	wantOuts, wantContent, wantReads := show(outs), show(content), show(reads)
	for _, x := range []any{rep, outs, content, reads} {
		wipe(reflect.ValueOf(x))
	}
	content, _ = b.Content("/a/")
	reads, _ = b.Reads("all")
	if show(b.Outs()) != wantOuts || show(content) != wantContent || show(reads) != wantReads {
		t.Errorf("the builder has changed: %v %+v %v", b.Outs(), content, reads)
	}
	if l, f := build.Affected(b, a.job); f != none || l != nil {
		t.Errorf("affected: %v %+v", l, f)
	}
	if rep, f = b.Build(a.job); f != none || show(rep) != show(build.Report{}) {
		t.Errorf("built again: %+v %+v", rep, f)
	}
}

// roomy is a list with something behind it, and whether that is still there.
func roomy[T any](l []T, behind T) ([]T, func() bool) {
	l = append(slices.Clone(l), behind)[:len(l)]
	return l, func() bool { return reflect.DeepEqual(l[:len(l)+1][len(l)], behind) }
}

// Z2: what is after the length of a list stays as it is.
func TestBehindLists(t *testing.T) {
	a := full(t)
	var same [15]func() bool
	a.job.Set, same[0] = roomy(a.job.Set, tmpl.Source{Name: "zz"})
	a.job.Facts, same[1] = roomy(a.job.Facts, api.Named{Name: "zz"})
	a.job.Bodies, same[2] = roomy(a.job.Bodies, build.Body{Address: "/z/"})
	a.job.Wants, same[3] = roomy(a.job.Wants, build.Want{Path: "zzz", Template: "words"})
	a.job.Copies, same[4] = roomy(a.job.Copies, api.Out{Path: "x"})
	z := &a.job.Facts[len(a.job.Facts)-1].Value
	z.Items, same[5] = roomy(z.Items, text("behind"))
	z.Items[0].Keys, same[6] = roomy(z.Items[0].Keys, "z")
	z.Items[0].Items, same[7] = roomy(z.Items[0].Items, text("behind"))
	a.facts, same[8] = roomy(a.job.Facts, api.Named{Name: "zz"})
	a.content.Contents, same[9] = roomy(a.content.Contents, mark.Entry{Id: "z"})
	a.files, same[10] = roomy(a.files, api.File{Path: "zz"})
	a.site.Pages, same[11] = roomy(a.site.Pages, tree.Page{Key: "z"})
	a.site.Languages, same[12] = roomy(a.site.Languages, "fr")
	a.first.Items, same[13] = roomy(a.first.Items, text("behind"))
	a.before.Facts, same[14] = roomy(a.before.Facts, api.Named{Name: "zz"})
	if got, want := show(callAll(a)), show(callAll(full(t))); got != want {
		t.Errorf("what is behind lists counts:\n%s\n%s", got, want)
	}
	for i, same := range same {
		if !same() {
			t.Errorf("what is behind list %d has changed", i)
		}
	}
}

// Z3: beside a fault, an error or false all is zero.
func TestErrorsAlone(t *testing.T) {
	r := rand.New(rand.NewSource(9))
	var seen [13]int
	for range 3000 {
		x := callAll(anyArguments(r))
		bad := []bool{x.faults[0].E != 0, x.faults[1].E != 0, x.faults[2].E != 0, x.faults[3].E != 0, x.faults[4].E != 0, x.faults[5].E != 0, x.errors[0] != 0, x.errors[1] != 0, x.errors[2] != 0, x.errors[3] != 0, !x.found[0], !x.found[1], !x.found[2]}
		zero := []bool{x.affected == nil, show(x.report) == show(build.Report{}), x.set == nil, x.languages == nil, x.assets == nil && x.assetOuts == nil, show(x.loaded) == show(build.Job{}), show(x.settings) == show(build.Settings{}), show(x.menu) == show(api.Named{}),
			x.pages == nil && x.pageWants == nil, x.terms == nil && x.termWants == nil, show(x.fact) == show(api.Value{}), show(x.content) == show(page.Content{}), x.reads == nil}
		for i := range bad {
			if bad[i] && !zero[i] {
				t.Fatalf("result %d beside an error: %+v", i, x)
			}
			if bad[i] {
				seen[i]++
			}
		}
		for _, f := range append(x.faults[:], x.checked) {
			if f.E == api.OK && f.Where != "" {
				t.Fatalf("%q without a fault", f.Where)
			}
		}
	}
	if slices.Min(seen[:]) < 20 || slices.Max(seen[:]) > 2900 {
		t.Errorf("errors of the calls: %v", seen)
	}
}

// Z5: empty and nil lists are the same.
func TestEmptyLists(t *testing.T) {
	var a, b arguments
	e := api.Value{Kind: api.List, Items: []api.Value{}, Keys: []string{}}
	a.job = build.Job{Set: set("w", "{{ len(.) }}"), Facts: named("x", e), Bodies: []build.Body{}, Wants: wants("w", "w", "x"), Copies: []api.Out{}, Moved: []tree.Alias{}}
	b.job = build.Job{Set: set("w", "{{ len(.) }}"), Facts: named("x", list()), Wants: wants("w", "w", "x")}
	a.before, b.before = b.job, a.job
	a.facts, a.name, b.facts, b.name = a.job.Facts, "x", b.job.Facts, "x"
	a.content = page.Content{Contents: []mark.Entry{}, Reads: []string{}, Broken: []string{}}
	a.first, a.second, b.first, b.second = e, list(), list(), e
	a.files = []api.File{}
	s := manyPages(1)
	b.site, a.site = s, manyPages(1)
	for i := range a.site.Pages {
		a.site.Pages[i].Files = []string{}
		a.site.Pages[i].Settings.Keys, a.site.Pages[i].Settings.Items = []string{}, []api.Value{}
	}
	a.language, b.language, a.kind, b.kind, a.path, b.path = "en", "en", "k", "k", "w", "w"
	x, y := callAll(a), callAll(b)
	if show(x) != show(y) {
		t.Errorf("empty lists are not as nil ones are:\n%+v\n%+v", x, y)
	}
	if x.faults[1] != none || show(x.report) != show(build.Report{}) || !x.same || x.errors != [4]api.Errno{} || x.pages == nil {
		t.Errorf("%+v", x)
	}
	if x = callAll(arguments{job: build.Job{Set: []tmpl.Source{}, Facts: []api.Named{}, Wants: []build.Want{}}}); x.faults[1] != none || x.outs != nil {
		t.Errorf("%+v", x)
	}
}

// Z7: the same arguments give the same results, in whatever order goroutines run.
func TestSameResults(t *testing.T) {
	r := rand.New(rand.NewSource(10))
	var all []arguments
	var want []string
	for range 100 {
		a := anyArguments(r)
		all, want = append(all, a), append(want, show(callAll(a)))
	}
	var wait sync.WaitGroup
	for range 8 {
		wait.Go(func() {
			for i, a := range all {
				if show(callAll(a)) != want[i] {
					t.Errorf("%+v has other results the second time", a)
				}
			}
		})
	}
	wait.Wait()
}

// Z7: a builder and its copy are used by two goroutines at a time.
func TestCopiesAtOnce(t *testing.T) {
	b := built(t, base())
	var wait sync.WaitGroup
	for i := range 8 {
		c, d := b.Copy(), b.Copy()
		wait.Go(func() {
			j := base()
			for k := range 20 {
				j.Bodies[0].Text = fmt.Sprint(i, k, "\n")
				c.Build(j)
				c.Content("/")
				c.Outs()
			}
			c.Build(base())
		})
		wait.Go(func() { build.Affected(d, base()) })
	}
	wait.Wait()
	same(t, "outputs", b.Outs(), built(t, base()).Outs())
}

// largeFiles are as many files as there can be, and as large ones.
func largeFiles() []api.File {
	l := files("site.set", "terms [\"tags\"]; page 1; menus [\"main\"]")
	text := strings.Repeat(`{{ fact("site").title }}<p class="{{ .lang }}">`, tmpl.MaxText/50)
	for i := range 52 {
		l = append(l, files(fmt.Sprintf("template/t%d.html", i), text)...)
	}
	for _, name := range words("layout/page layout/section layout/term layout/terms hook/link hook/heading short/a") {
		l = append(l, files("template/"+name+".html", `{{ each x in .items }}{{ $x.title }}{{ end }}{{ call "t1" . }}`)...)
	}
	for i := 0; len(l) < api.MaxFiles; i++ {
		settings := fmt.Sprintf("tags [\"a\" \"t%d\" \"u%d\" \"v%d\" ]; menus { main {} }", i, i, i)
		l = append(l, files(fmt.Sprintf("content/p%d.page", i), front(settings, strings.Repeat("*a* b\n\nc d "+wide(30)+"\n", 400)))...)
	}
	return l
}

// Z6: as much of everything as can be.
func TestLargeSite(t *testing.T) {
	begin := time.Now()
	l := largeFiles()
	j, f := build.Load(l, 0)
	if f != none {
		t.Fatal(f)
	}
	b := built(t, j)
	if len(b.Outs()) < 300 {
		t.Errorf("%d outputs", len(b.Outs()))
	}
	l[len(l)-1].Body += "x"
	j, _ = build.Load(l, 0)
	rep, f := b.Build(j)
	if f != none || len(rep.Bodies) != 1 || len(rep.Outs) > 3 {
		t.Errorf("%v %+v", rep, f)
	}
	many := build.Job{Set: set("w", `{{ each x in . }}{{ $x }}{{ end }}`)}
	for i := range 100_000 {
		many.Facts = append(many.Facts, api.Named{Name: fmt.Sprintf("f%06d", i), Value: list(text("x"), text("y"))})
	}
	many.Wants = manyWants(build.MaxWants)
	for i := range many.Wants {
		many.Wants[i].Template, many.Wants[i].Fact = "w", many.Facts[i*100].Name
	}
	for i := range 1000 {
		many.Copies = append(many.Copies, api.Out{Path: fmt.Sprintf("z%04d", i), Body: wide(api.MaxOut)})
	}
	b = built(t, many)
	many.Facts[100].Value.Items[1].Text = "z"
	rep, f = b.Build(many)
	if f != none || show(rep) != show(build.Report{Outs: words("w000001"), Changed: words("w000001")}) {
		t.Errorf("%v %+v", rep, f)
	}
	if took := time.Since(begin); took > 30*time.Second {
		t.Errorf("that took %v", took)
	}
}

// Z6: settings and values as large as they can be.
func TestLargeValues(t *testing.T) {
	v, _, e := conf.Parse("x [" + strings.Repeat("1 ", conf.MaxValues-2) + "]")
	expect(t, "parsed", len(v.Items[0].Items), e, conf.MaxValues-2, api.OK)
	s, e := build.ReadSettings("title \"" + wide(conf.MaxString) + "\"; x [" + strings.Repeat("1 ", conf.MaxValues-3) + "]")
	expect(t, "settings", len(s.Title)+len(s.All.Items[1].Items), e, conf.MaxString+conf.MaxValues-3, api.OK)
	large := list()
	for range 1_000_000 {
		large.Items = append(large.Items, list(text("x")))
	}
	other, _ := build.Fact(named("x", large), "x")
	if !build.SameValue(large, other) {
		t.Error("large values are others")
	}
	other.Items[999_999].Items[0].Text = "y"
	if build.SameValue(large, other) {
		t.Error("large values are the same")
	}
}
