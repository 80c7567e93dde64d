package build_test

import (
	"fmt"
	"math/rand"
	"slices"
	"strings"
	"testing"

	"masthead/api"
	"masthead/build"
	"masthead/lang"
	"masthead/tree"
)

// siteFiles are the files of a site that has something of everything.
func siteFiles() []api.File {
	return files(
		"site.set", `title "T"; base "https://x"; languages ["en" "de"]; terms ["tags"]; menus ["main"]; page 2; summary 1; small yes; own { x [1 2] }`,
		"content/_index.page", "",
		"content/a.page", front(`tags ["x"]; menus { main {} }; date 1970-01-02`, "*x*\n"),
		"content/b/index.page", front(`aliases ["old"]`, "b\n\nc\n"),
		"content/b/i.txt", "i",
		"content/c.de.page", "c\n",
		"content/d.page", front("draft yes", "{< none />}\n"),
		"template/layout/bundle.html", "{{ .content.html }}",
		"template/layout/page.html", `{{ .content.html }}{{ fact("string:en:hi") }}`,
		"template/layout/section.html", "{{ .page.title }}: {{ each x in .items }}{{ $x.title }} {{ end }}{{ .number }}/{{ .many }}",
		"template/layout/term.html", "{{ .term.count }}",
		"template/layout/terms.html", "{{ each x in .terms }}{{ $x.title }}{{ end }}",
		"asset/s.style", "a { b: c ; }",
		"string/en.set", "strings { hi \"Hello\" }\n",
		"string/de.set", "parent \"en\"\n",
	)
}

// P9.11: the job of files.
func TestLoad(t *testing.T) {
	all := siteFiles()
	j, f := build.Load(all, 1)
	if f != none {
		t.Fatal(f)
	}
	settings, _ := build.ReadSettings(all[0].Body)
	set, _ := build.Templates(all)
	languages, _ := build.Strings(all)
	assetFacts, assets, _ := build.Assets(all, true)
	stringFacts, _ := lang.Facts(languages)
	s := site(t, "en de",
		"_index.page", "", "a.page", front(`tags ["x"]; menus { main {} }; date 1970-01-02`, "*x*\n"), "b/index.page", front(`aliases ["old"]`, "b\n\nc\n"), "b/i.txt", "i", "c.de.page", "c\n")
	pageFacts, _ := tree.Facts(s)
	outFacts, pageWants, _ := build.PageOutputs(s, 2)
	termFacts, termWants, _ := build.TermOutputs(s, "tags")
	english, _ := build.MenuFact(s, "en", "main")
	german, _ := build.MenuFact(s, "de", "main")
	want := build.Job{
		Set: set,
		Facts: slices.Concat(
			named("day", day(1), "site", table("base", text("https://x"), "languages", texts("en", "de"), "settings", settings.All, "title", text("T"))),
			pageFacts, stringFacts, assetFacts, outFacts, termFacts, []api.Named{english, german}),
		Bodies: []build.Body{{Address: "/", Words: 1}, {Address: "/a/", Text: "*x*\n", Words: 1}, {Address: "/b/", Text: "b\n\nc\n", Words: 1}, {Address: "/de/", Words: 1}, {Address: "/de/c/", Text: "c\n", Words: 1}},
		Wants:  append(pageWants, termWants...),
		Copies: append(outs("b/i.txt", "i"), assets...),
		Moved:  []tree.Alias{{From: "/old/", To: "/b/"}},
	}
	slices.SortFunc(want.Facts, func(a, b api.Named) int { return strings.Compare(a.Name, b.Name) })
	slices.SortFunc(want.Wants, func(a, b build.Want) int { return strings.Compare(a.Path, b.Path) })
	same(t, "job", j, want)
	same(t, "names", names(j.Facts), words("asset:s.style day menu:de:main menu:en:main out:/ out:/a/ out:/b/ out:/de/ out:/de/c/ out:/tags/ out:/tags/x/ page:/ page:/a/ page:/b/ page:/de/ page:/de/c/ site string:de:hi string:en:hi term:/tags/x/ terms:tags"))
	if assets[0].Body != "a{b:c}" {
		t.Errorf("assets %v", assets)
	}
	slices.Reverse(all)
	again, f := build.Load(all, 1)
	if f != none || show(again) != show(want) {
		t.Errorf("in another order: %+v", f)
	}
	got := map[string]string{}
	for _, out := range built(t, j).Outs() {
		got[out.Path] = out.Body
	}
	delete(got, assets[0].Path)
	same(t, "outputs", got, map[string]string{
		"a/index.html": "<p><em>x</em></p>\nHello", "b/index.html": "<p>b</p>\n<p>c</p>\n", "de/c/index.html": "<p>c</p>\nHello", "de/index.html": "Home: C 1/1",
		"index.html": "Home: A B 1/1", "tags/index.html": "x", "tags/x/index.html": "1", "b/i.txt": "i",
	})
}

// P9.11: the least that there can be, and what is missing.
func TestLoadLittle(t *testing.T) {
	j, f := build.Load(files("site.set", "", "template/layout/section.html", ""), 0)
	if f != none {
		t.Fatal(f)
	}
	same(t, "names", names(j.Facts), words("day out:/ page:/ site"))
	same(t, "site", valueOf(t, j.Facts, "site"), table("base", text(""), "languages", texts("en"), "settings", table(), "title", text("")))
	same(t, "bodies", j.Bodies, []build.Body{{Address: "/", Words: 40}})
	same(t, "outputs", j.Wants, wants("index.html", "layout/section", "out:/"))
	same(t, "others", fmt.Sprint(j.Copies, j.Moved), "[] []")
	for _, missing := range words("layout/term layout/terms") {
		l := slices.DeleteFunc(siteFiles(), func(f api.File) bool { return f.Path == "template/"+missing+".html" })
		j, f := build.Load(l, 1)
		if f != none || slices.ContainsFunc(j.Facts, func(f api.Named) bool { return strings.Contains(f.Name, "tags") }) || slices.ContainsFunc(j.Wants, func(w build.Want) bool { return strings.Contains(w.Path, "tags") }) {
			t.Errorf("without %s: %+v %v", missing, f, j.Wants)
		}
	}
	j, f = build.Load(append(without("string/de.set"), files("content/e.page", front(`k ["y"]`, ""))...), 1)
	if v, ok := build.Fact(j.Facts, "string:en:hi"); f != none || !ok || v.Text != "Hello" {
		t.Errorf("one language: %+v %+v %v", f, v, ok)
	}
	j, f = build.Load(append(replaced("site.set", `languages ["en" "de"]; terms ["k" "tags"]`), files("content/e.page", front(`k ["y"]`, ""))...), 1)
	for _, name := range words("term:/k/y/ terms:k term:/tags/x/ terms:tags out:/k/ out:/tags/x/") {
		if _, ok := build.Fact(j.Facts, name); f != none || !ok {
			t.Errorf("two kinds of terms: no %s, %+v", name, f)
		}
	}
	l := append(siteFiles(), files("content/t.page", front("tags 1", ""))...)
	if _, f := build.Load(l, 1); f != at("", api.ErrKind) {
		t.Errorf("with templates: %+v", f)
	}
	l = slices.DeleteFunc(l, func(f api.File) bool { return f.Path == "template/layout/term.html" })
	if _, f := build.Load(l, 1); f != none {
		t.Errorf("without templates: %+v", f)
	}
}

// replaced are the files of a site with another body of one.
func replaced(path, body string) []api.File {
	l := slices.DeleteFunc(siteFiles(), func(f api.File) bool { return f.Path == path })
	return append(l, api.File{Path: path, Body: body})
}

func added(l ...string) []api.File { return append(siteFiles(), files(l...)...) }

func without(path string) []api.File {
	return slices.DeleteFunc(siteFiles(), func(f api.File) bool { return f.Path == path })
}

// longSections are sections whose addresses are long; the last one has no file of its own.
func longSections() []string {
	var l []string
	path := "content/"
	for _, part := range words("v w y z") {
		path += part + "/"
		l = append(l, path+"_index.page", front("slug \""+strings.Repeat(part, 40)+"\"", ""))
	}
	return append(l, path+strings.Repeat("e", 40)+"/f.page", "")
}

// P9.11: each fault, in the order in which they are looked for.
func TestLoadFaults(t *testing.T) {
	var pages []string
	for i := range 120 {
		pages = append(pages, fmt.Sprintf("content/p/%03d/a/b/c.page", i), "")
	}
	var many []string
	for i := range build.MaxWants {
		many = append(many, fmt.Sprintf("\"t%d\"", i))
	}
	large, parted := wide(api.MaxBody+1), `languages ["en" "de"]; page 1; terms ["tags"]`
	for _, c := range []struct {
		name  string
		files []api.File
		day   int
		want  build.Fault
	}{
		{"too many files", added(pages...), -1, at("", api.ErrLarge)},
		{"no path", added("x/..", "", "", large), -1, at("", api.ErrPath)},
		{"another file", added("x", large, "y", ""), -1, at("x", api.ErrPath)},
		{"another folder", added("contents/x", ""), -1, at("contents/x", api.ErrPath)},
		{"a folder alone", added("template", ""), -1, at("template", api.ErrPath)},
		{"a folder and a slash", added("asset/", ""), -1, at("asset/", api.ErrPath)},
		{"settings below", added("site.set/x", ""), -1, at("site.set/x", api.ErrPath)},
		{"a file twice", added("string/de.set", large), -1, at("string/de.set", api.ErrTwice)},
		{"a large file twice", append(replaced("content/a.page", large), files("content/a.page", "")...), -1, at("content/a.page", api.ErrTwice)},
		{"the last file twice", added("template/layout/terms.html", ""), -1, at("template/layout/terms.html", api.ErrTwice)},
		{"settings twice", added("site.set", ""), -1, at("site.set", api.ErrTwice)},
		{"a large file", added("asset/x", large, "b", ""), -1, at("asset/x", api.ErrLarge)},
		{"as large as can be", added("asset/x", large[1:]), 1, none},
		{"an earlier one", added("asset/x", large, "a", ""), -1, at("a", api.ErrPath)},
		{"large settings", replaced("site.set", large), -1, at("site.set", api.ErrLarge)},
		{"no settings", without("site.set"), -1, at("site.set", api.ErrNone)},
		{"no settings, and a large file", append(without("site.set"), files("string/x.set", large)...), -1, at("string/x.set", api.ErrLarge)},
		{"nothing", nil, -1, at("site.set", api.ErrNone)},
		{"a day before all", replaced("site.set", "title 1"), -1, at("", api.ErrRange)},
		{"a day after all", replaced("site.set", "title 1"), api.MaxDay + 1, at("", api.ErrRange)},
		{"settings", append(replaced("site.set", "title 1"), files("template/a.htm", "")...), 0, at("site.set", api.ErrKind)},
		{"settings' syntax", replaced("site.set", "title"), 0, at("site.set", api.ErrSyntax)},
		{"a template", added("template/a.htm", "", "string/e1.set", ""), 0, at("template/a.htm", api.ErrPath)},
		{"a template's syntax", added("template/a.html", "{{", "string/e1.set", ""), 0, at("template/a.html", api.ErrSyntax)},
		{"strings", added("string/e1.set", "", "asset/x.style", "\""), 0, at("string/e1.set", api.ErrPath)},
		{"a chain", added("string/fr.set", `parent "xx"`, "asset/x.style", "\""), 0, at("", api.ErrNone)},
		{"an asset", added("asset/x.style", "\"", "content/x", ""), 0, at("asset/x.style", api.ErrSyntax)},
		{"a source", added("content/x", "", "content/e.page", front(`date "x"`, "")), 0, at("content/e.page", api.ErrKind)},
		{"a source's settings", added("content/e.page", "%%%\n"), 0, at("content/e.page", api.ErrSyntax)},
		{"a file that belongs to nothing", added("content/x", ""), 0, at("content/x", api.ErrForm)},
		{"two pages at one address", added("content/e.page", front(`slug "a"; aliases ["a"]`, "")), 1, at("content/e.page", api.ErrTwice)},
		{"an address too long, of a section that is made", added(longSections()...), 1, at("content/v/w/y/z/"+strings.Repeat("e", 40), api.ErrPath)},
		{"an alias", added("content/e.page", front(`aliases ["a"]; tags 1`, "")), 1, at("content/e.page", api.ErrTwice)},
		{"an alias before outputs", added(append([]string{"content/e.page", front(`aliases ["/"]`, "")}, pages[:200]...)...), 1, at("content/e.page", api.ErrTwice)},
		{"too many outputs", added(append([]string{"content/e.page", front(`tags 1`, "")}, pages[:200]...)...), 1, at("", api.ErrLarge)},
		{"a part where a page is", append(replaced("site.set", parted), files("content/page/2.page", front("tags 1", ""))...), 1, at("", api.ErrTwice)},
		{"terms", added("content/e.page", front(`tags 1; menus { main { parent "x" } }`, "")), 1, at("", api.ErrKind)},
		{"a menu", added("content/e.page", front(`menus { main { parent "x" } }; layout "x"`, ""), "content/tags.page", ""), 1, at("", api.ErrNone)},
		{"outputs twice", added("content/tags/x.page", front(`layout "none"`, "")), 1, at("tags/index.html", api.ErrTwice)},
		{"the first output twice", replaced("site.set", `languages ["en" "de"]; terms ["a"]`), 1, at("a/index.html", api.ErrTwice)},
		{"a later kind of terms", replaced("site.set", `languages ["en" "de"]; terms ["tags" "own" "a"]; menus ["main"]`), 1, at("a/index.html", api.ErrTwice)},
		{"a fault in a later kind", append(replaced("site.set", `languages ["en" "de"]; terms ["tags" "own" "a"]`), files("content/e.page", front("own 1", ""))...), 1, at("", api.ErrKind)},
		{"an output twice", added("content/tags.page", front(`layout "none"`, ""), "content/z.page", front(`layout "none"`, "")), 1, at("tags/index.html", api.ErrTwice)},
		{"no layout", added("content/e.page", front(`layout "x"`, "")), 1, at("e/index.html", api.ErrNone)},
		{"a copy above an output", append(replaced("site.set", parted), files("content/page/index.page", "", "content/page/2", "")...), 1, at("page/2", api.ErrTwice)},
		{"a copy that is wanted", append(replaced("site.set", parted), files("content/page/index.page", "", "content/page/2/index.html", "")...), 1, at("page/2/index.html", api.ErrTwice)},
		{"a copy where no part is", append(replaced("site.set", parted), files("content/page/index.page", "", "content/page/8", "")...), 1, none},
		{"too many terms", added("content/e.page", front("tags ["+strings.Join(many[:build.MaxWants-8], " ")+"]", "")), 1, at("", api.ErrLarge)},
		{"many terms", added("content/e.page", front("tags ["+strings.Join(many[:build.MaxWants-9], " ")+"]", "")), 1, none},
	} {
		j, f := build.Load(c.files, c.day)
		if f != c.want || c.want != none && show(j) != show(build.Job{}) {
			t.Errorf("%s: %+v, not %+v", c.name, f, c.want)
		}
	}
}

// P9.11: a body is rendered by Build, and not by Load; the day decides what is there.
func TestLoadDay(t *testing.T) {
	l := added("content/later.page", front("publish 1970-01-11", "{< none />}\n"))
	for day, want := range map[int]build.Fault{0: none, 9: none, 10: at("/later/", api.ErrNone), 84005: at("/later/", api.ErrNone)} {
		j, f := build.Load(l, day)
		if f != none {
			t.Fatal(f)
		}
		if _, f = build.New().Build(j); f != want {
			t.Errorf("day %d: %+v", day, f)
		}
		same(t, "day", valueOf(t, j.Facts, "day"), api.Value{Kind: api.Day, Int: day})
	}
}

// anyFiles are the files of a site, most often one without a fault.
func anyFiles(r *rand.Rand) []api.File {
	settings := pick(r, words("page_1 page_2 small_yes title_\"x\" menus_[\"main\"] terms_[\"tags\"] summary_0 own_1"))
	l := files("site.set", "languages [\"en\" \"de\"]\n"+strings.ReplaceAll(settings, "_", " "))
	for _, f := range anyPages(r) {
		l = append(l, files("content/"+f.Path, f.Body)...)
	}
	for _, name := range words("layout/bundle layout/page layout/section layout/l layout/term layout/terms") {
		l = append(l, files("template/"+name+".html", pick(r, []string{"{{ .content.html }}", "{{ .page.title }}", `{{ fact("site").title }}`, `{{ each x in .items }}{{ $x.title }}{{ end }}`, `{{ .content.summary }}{{ fact("string:en:a") }}`}))...)
	}
	for _, path := range words("asset/a.txt string/en.set template/hook/emph.html template/hook/link.html") {
		if r.Intn(2) == 0 {
			l = append(l, files(path, pick(r, []string{"", "", "# x", "strings { a \"b\" }"}))...)
		}
	}
	return l
}

// P9.11: a job does not depend on what is hidden, nor on the order of the files; and what a builder has depends on the files and the day alone.
func TestLoadRandom(t *testing.T) {
	r := rand.New(rand.NewSource(7))
	b := build.New()
	kept, hidden, builds := 0, 0, 0
	for range 600 {
		l, day := anyFiles(r), pick(r, []int{0, 11_000, 11_400})
		j, f := build.Load(l, day)
		shuffled := slices.Clone(l)
		r.Shuffle(len(l), func(i, k int) { shuffled[i], shuffled[k] = shuffled[k], shuffled[i] })
		again, g := build.Load(shuffled, day)
		if f != g || show(j) != show(again) {
			t.Fatalf("%+v: %+v %+v", l, f, g)
		}
		if f != none {
			continue
		}
		published := visible(t, l, day)
		if hidden += len(l) - len(published); show(first(build.Load(published, day))) != show(j) {
			t.Fatalf("%+v: another job without what is hidden", l)
		}
		report, f := b.Build(j)
		n := build.New()
		if _, g := n.Build(j); f != g {
			t.Fatalf("%+v: %+v %+v", l, f, g)
		}
		if f == none {
			builds, kept = builds+1, kept+len(j.Wants)-len(report.Outs)
			same(t, "outputs", b.Outs(), n.Outs())
			for _, want := range j.Wants {
				x, _ := b.Reads(want.Path)
				y, _ := n.Reads(want.Path)
				same(t, "reads of "+want.Path, x, y)
			}
			for _, body := range j.Bodies {
				x, _ := b.Content(body.Address)
				y, _ := n.Content(body.Address)
				same(t, "content of "+body.Address, x, y)
			}
		}
	}
	if kept < 100 || hidden < 100 || builds < 100 {
		t.Errorf("%d kept, %d hidden, %d builds", kept, hidden, builds)
	}
}

func first(j build.Job, _ build.Fault) build.Job { return j }

// visible are the files without those of content that are hidden on a day.
func visible(t *testing.T, l []api.File, day int) []api.File {
	t.Helper()
	var content, out []api.File
	for _, f := range l {
		if path, ok := strings.CutPrefix(f.Path, "content/"); ok {
			content = append(content, api.File{Path: path, Body: f.Body})
		} else {
			out = append(out, f)
		}
	}
	sources, _ := tree.Read(content, words("en de"))
	_, isHidden, _ := tree.Effective(sources, words("en de"), day)
	for i, s := range sources {
		if isHidden[i] {
			continue
		}
		k := slices.IndexFunc(content, func(f api.File) bool { return f.Path == s.Path })
		out = append(out, api.File{Path: "content/" + s.Path, Body: content[k].Body})
	}
	return out
}

// P9.11: the example of the chapter.
func TestExample(t *testing.T) {
	l := files("site.set", "", "template/layout/section.html", "{{ .page.title }}: {{ each x in .items }}{{ $x.title }} {{ end }}", "template/layout/page.html", "{{ .content.html }}", "content/_index.page", "", "content/a.page", "*x*")
	b := build.New()
	run := func(body string) build.Report {
		l[4].Body = body
		j, f := build.Load(l, 0)
		if f != none {
			t.Fatal(f)
		}
		rep, f := b.Build(j)
		if f != none {
			t.Fatal(f)
		}
		return rep
	}
	run("*x*")
	same(t, "outputs", b.Outs(), outs("a/index.html", "<p><em>x</em></p>\n", "index.html", "Home: A "))
	same(t, "another rest", run("y"), build.Report{Bodies: words("/a/"), Outs: words("a/index.html"), Changed: words("a/index.html")})
	same(t, "a title", run(front(`title "B"`, "y")), build.Report{Outs: words("index.html"), Changed: words("index.html")})
	same(t, "outputs", b.Outs(), outs("a/index.html", "<p>y</p>\n", "index.html", "Home: B "))
}
