package ship_test

import (
	"fmt"
	"math/rand"
	"slices"
	"sort"
	"strings"
	"testing"

	"masthead/api"
	"masthead/build"
	"masthead/conf"
	"masthead/ship"
	"masthead/tree"
)

// session checks a session of lines and replies, in turn.
func session(t *testing.T, name string, l ...string) {
	t.Helper()
	var in, want strings.Builder
	for i := 0; i < len(l); i += 2 {
		in.WriteString(l[i] + "\n")
		want.WriteString(l[i+1] + "\n")
	}
	got := strings.Split(ship.Session(in.String()), "\n")
	for i, line := range strings.Split(want.String(), "\n") {
		if i >= len(got) || got[i] != line {
			t.Errorf("%s: line %d: %s\n got %s\nwant %s", name, i, short(l[min(2*i, len(l)-1)]), short(strings.Join(got[min(i, len(got)):min(i+1, len(got))], "")), short(line))
		}
	}
	if len(got) != len(l)/2+1 {
		t.Errorf("%s: %d replies for %d lines", name, len(got)-1, len(l)/2)
	}
}

// base are lines that add a site of two pages.
func base(l ...string) []string {
	return append([]string{
		"add site.set title \"T\"", "ok",
		"add template/layout/section.html <title>{{ .page.title }}</title><a href=\"/none\">n</a>", "ok",
		"add template/layout/page.html <h1>{{ .page.title }}</h1>{{ .content.html }}", "ok",
		"add content/a.page Cats and *dogs*", "ok",
	}, l...)
}

// P10.13: lines.
func TestSessionLines(t *testing.T) {
	for text, want := range map[string]string{
		"":                                       "",
		"\n":                                     "error 8\n",
		"\n\n":                                   "error 8\nerror 8\n",
		"build":                                  "fault 7 site.set\n",
		"build\n":                                "fault 7 site.set\n",
		"build\n\n":                              "fault 7 site.set\nerror 8\n",
		"\nbuild":                                "error 8\nfault 7 site.set\n",
		"build\r\n":                              "error 8\n",
		"plan\nship\nbroken":                     "ok 0\nok 0\nok 0\n",
		"faults\nget /\nfind ":                   "ok 0\n404\nok\n",
		strings.Repeat("\n", api.MaxOut):         strings.Repeat("error 8\n", api.MaxOut),
		strings.Repeat("\n", api.MaxOut+1):       "too long\n",
		"day 1970-01-01\n" + wide(api.MaxOut-15): "ok\nerror 8\n",
		"day 1970-01-01\n" + wide(api.MaxOut-14): "too long\n",
		"day 1970-01-01\n" + wide(api.MaxOut-15) + "\n": "too long\n",
	} {
		if got := ship.Session(text); got != want {
			t.Errorf("%s: %s, not %s", short(text), short(got), short(want))
		}
	}
}

// P10.13: lines of another form.
func TestSessionForms(t *testing.T) {
	var l []string
	for _, line := range []string{
		" ", " build", "build ", "build x", "Build", "BUILD", "builds", "x", "é", "\x00",
		"add", "add ", "add a", "add  ", "add  a b", "Add a b", "add\ta b", "add content/a.page",
		"drop", "drop ", "drop a b", "drop a ", "drop  a", "drops a",
		"day", "day ", "day 1", "day  1970-01-01", "day 1970-01-01 ", "day 1970-1-1", "day 19700101", "day 1970-01-01x",
		"get", "get ", "get / ", "get  /", "get / /", "gets /",
		"see", "see ", "see index.html", "see index.html ", "see  0", "see index.html 0 ", "see index.html  0", "see index.html 00", "see index.html 01", "see index.html -1", "see index.html +1", "see index.html x", "see index.html 0 0", "see index.html 1000000000", "see index.html 0x0", "see none x",
		"reads", "reads ", "reads a b", "reads a ", "read a",
		"broken ", "broken x", "faults ", "faults 0", "plan ", "plan x", "ship ", "ship x", "ship\t", "shipp",
		"find", "finds x", "find\tx",
	} {
		l = append(l, line, "error 8")
	}
	session(t, "before a build", l...)
	session(t, "after a build", append(base("build", "ok 2 2 0 2"), l...)...)
}

// P10.13: files.
func TestSessionFiles(t *testing.T) {
	session(t, "add and drop",
		"drop a", "error 7",
		"add a ", "ok",
		"drop a", "ok",
		"drop a", "error 7",
		"drop A", "error 7",
		"add a x", "ok",
		"drop a/b", "error 7",
		"add a/b x", "ok",
		"build", "fault 3 a",
		"drop a", "ok",
		"build", "fault 3 a/b",
		"drop a/b", "ok",
		"build", "fault 7 site.set",
	)
	session(t, "lines of files",
		"add site.set ", "ok",
		"add site.set title \"T\"", "ok",
		"add site.set", "error 8",
		"add site.set   ", "ok",
		"add template/layout/section.html {{ fact(\"site\").title }}", "ok",
		"add template/layout/section.html  b  c ", "ok",
		"add template/layout/section.html ", "ok",
		"add template/layout/section.html d", "ok",
		"build", "ok 1 1 0 1",
		"get /", "200 index.html 12",
		"see index.html 0", "ok T",
		"see index.html 1", "ok  b  c ",
		"see index.html 2", "ok ",
		"see index.html 3", "ok d",
		"see index.html 4", "error 7",
		"see index.html 999999999", "error 7",
		"drop template/layout/section.html", "ok",
		"add template/layout/section.html x", "ok",
		"build", "ok 0 1 0 1",
		"see index.html 0", "ok x",
		"see index.html 1", "error 7",
	)
	var l []string
	for _, path := range []string{"/a", "a/", "A", ".", "a//b", "..", "a/../b", wide(41), longPath + "x", "\x00", "é", "a\tb"} {
		l = append(l, "add "+path+" x", "error 3")
	}
	session(t, "no paths", append(l, "build", "fault 7 site.set")...)
}

// P10.13: how large files can be, and how many.
func TestSessionLimits(t *testing.T) {
	session(t, "large files",
		"add a "+wide(api.MaxBody), "error 4",
		"drop a", "error 7",
		"add a "+wide(api.MaxBody-1), "ok",
		"add a ", "error 4",
		"add b "+wide(api.MaxBody-2), "ok",
		"add b x", "error 4",
		"add b ", "ok",
		"add b ", "error 4",
		"add A "+wide(api.MaxBody), "error 3",
		"drop b", "ok",
		"add b ", "ok",
	)
	var l []string
	for i := range api.MaxFiles {
		l = append(l, fmt.Sprintf("add f%d x", i), "ok")
	}
	l = append(l,
		"add g x", "error 4",
		"add G x", "error 3",
		"add f7 y", "ok",
		"drop f0", "ok",
		"add g x", "ok",
		"add f0 x", "error 4",
	)
	session(t, "many files", l...)
}

// P10.13: days.
func TestSessionDays(t *testing.T) {
	session(t, "days", base(
		"add content/b.page %%%", "ok",
		"add content/b.page date 2024-02-29", "ok",
		"add content/b.page %%%", "ok",
		"build", "ok 2 2 0 2",
		"day 2024-02-29", "ok",
		"build", "ok 1 2 0 1",
		"get /b/", "200 b/index.html 11",
		"day 2024-02-30", "error 2",
		"day 1969-12-31", "error 2",
		"day 2200-01-01", "error 2",
		"build", "ok 0 0 0 0",
		"day 2024-02-28", "ok",
		"build", "ok 0 1 1 1",
		"get /b/", "404",
		"day 2199-12-31", "ok",
		"build", "ok 1 2 0 1",
		"day 1970-01-01", "ok",
		"build", "ok 0 1 1 1",
	)...)
}

// P10.13: builds, and that nothing is changed by one with a fault.
func TestSessionBuilds(t *testing.T) {
	session(t, "builds", base(
		"build", "ok 2 2 0 2",
		"build", "ok 0 0 0 0",
		"ship", "ok 2",
		"add content/b/index.page B", "ok",
		"build", "fault 7 b/index.html",
		"get /b", "404",
		"plan", "ok 0",
		"add template/layout/bundle.html B", "ok",
		"add content/b/x.txt X", "ok",
		"build", "ok 1 2 0 2",
		"get /b", "301 /b/",
		"get /b/x.txt", "200 b/x.txt 2",
		"see b/x.txt 0", "ok X",
		"see b/x.txt 1", "error 7",
		"see b 0", "error 7",
		"reads b/x.txt", "error 7",
		"plan", "ok 2",
		"drop content/b/x.txt", "ok",
		"build", "ok 0 0 1 1",
		"get /b/x.txt", "404",
		"add site.set ?", "ok",
		"build", "fault 8 site.set",
		"get /b/", "200 b/index.html 2",
		"drop site.set", "ok",
		"add site.set menus [\"m\"]", "ok",
		"add content/c.page %%%", "ok",
		"add content/c.page menus { m { parent \"x\" } }", "ok",
		"add content/c.page %%%", "ok",
		"build", "fault 7",
		"see a/index.html 1", "ok ",
		"see a/index.html 2", "error 7",
		"see a/index.html 0", "ok <h1>A</h1><p>Cats and <em>dogs</em></p>",
	)...)
	session(t, "errors before a build",
		"see index.html 0", "error 7",
		"reads index.html", "error 7",
		"get x", "error 3",
		"get /"+wide(200), "error 3",
		"get //", "404",
		"find "+wide(201), "error 4",
		"find "+wide(200), "ok",
	)
}

// P10.13: what has been read.
func TestSessionReads(t *testing.T) {
	session(t, "reads", base(
		"reads a/index.html", "error 7",
		"build", "ok 2 2 0 2",
		"reads a/index.html", "ok template:layout/page out:/a/ page:/a/ content:/a/",
		"reads index.html", "ok template:layout/section out:/ page:/",
		"reads a", "error 7",
		"reads /a/", "error 7",
	)...)
}

// P10.13: redirects are those of the last build.
func TestSessionMoved(t *testing.T) {
	session(t, "aliases", base(
		"add content/b.page %%%", "ok",
		"add content/b.page aliases [\"old\" \"/x/y/\"]", "ok",
		"add content/b.page %%%", "ok",
		"add content/b.page [x](/old#none) [y](/x/y/?q) [z](/x)", "ok",
		"get /old", "404",
		"build", "ok 3 3 0 3",
		"get /old", "301 /b/",
		"get /old/?q#f", "301 /b/",
		"get /x/%79", "301 /b/",
		"get /x", "404",
		"broken", "ok 2",
		"drop content/b.page", "ok",
		"get /old", "301 /b/",
		"build", "ok 0 1 1 1",
		"get /old", "404",
		"broken", "ok 1",
	)...)
	var aliases []string
	for i := range ship.MaxRedirects + 1 {
		aliases = append(aliases, fmt.Sprintf("\"x%d\"", i))
	}
	session(t, "too many aliases", base(
		"add content/b.page %%%", "ok",
		"add content/b.page aliases ["+strings.Join(aliases, " ")+"]", "ok",
		"add content/b.page %%%", "ok",
		"build", "ok 3 3 0 3",
		"get /", "error 4",
		"get x", "error 4",
		"broken", "error 4",
		"faults", "ok 2",
		"plan", "ok 3",
		"see a/index.html 0", "ok <h1>A</h1><p>Cats and <em>dogs</em></p>",
	)...)
}

// P10.13: faults and broken links are counted.
func TestSessionChecks(t *testing.T) {
	session(t, "checks", base(
		"broken", "ok 0",
		"faults", "ok 0",
		"build", "ok 2 2 0 2",
		"broken", "ok 1",
		"faults", "ok 1",
		"add content/a.page [x](y) ![](z) ## b", "ok",
		"add content/a.page ", "ok",
		"add content/a.page #### Deep", "ok",
		"broken", "ok 1",
		"build", "ok 1 1 0 1",
		"broken", "ok 3",
		"faults", "ok 2",
	)...)
}

// P10.13: the search.
func TestSessionFind(t *testing.T) {
	session(t, "find", base(
		"find cats", "ok",
		"build", "ok 2 2 0 2",
		"find cats", "ok /a/",
		"find CAT, the dog", "ok /a/",
		"find home", "ok /",
		"find a", "ok /a/",
		"find em", "ok",
		"find ", "ok",
		"find  cats  ", "ok /a/",
		"find x", "ok",
		"find "+wide(200), "ok",
		"find "+wide(201), "error 4",
		"add content/b.page %%%", "ok",
		"add content/b.page title \"Cats\"", "ok",
		"add content/b.page %%%", "ok",
		"find cats", "ok /a/",
		"build", "ok 1 2 0 1",
		"find cats", "ok /b/ /a/",
		"drop content/b.page", "ok",
		"add content/b.page %%%", "ok",
		"add content/b.page title \"a\\nb\"", "ok",
		"add content/b.page %%%", "ok",
		"build", "ok 0 1 0 1",
		"find cats", "error 9",
		"find "+wide(201), "error 9",
	)...)
	l := base()
	var hits []string
	for i := range 12 {
		l = append(l, fmt.Sprintf("add content/p%02d.page mouse", i), "ok")
		if i < 10 {
			hits = append(hits, fmt.Sprintf("/p%02d/", i))
		}
	}
	session(t, "the first ten", append(l, "build", "ok 14 14 0 14", "find mice mouse", "ok "+strings.Join(hits, " "))...)
}

// P10.13: plans and what is shipped.
func TestSessionShip(t *testing.T) {
	session(t, "ship", base(
		"plan", "ok 0",
		"ship", "ok 0",
		"build", "ok 2 2 0 2",
		"plan", "ok 2",
		"ship", "ok 2",
		"plan", "ok 0",
		"ship", "ok 0",
		"add asset/x.txt X", "ok",
		"add content/b.page B", "ok",
		"drop content/a.page", "ok",
		"build", "ok 1 2 1 3",
		"plan", "ok 3",
		"add content/c.page {< none />}", "ok",
		"build", "fault 7 /c/",
		"plan", "ok 3",
		"ship", "ok 3",
		"plan", "ok 0",
	)...)
	session(t, "a file that is a directory now", base(
		"add content/b/index.page B", "ok",
		"add template/layout/bundle.html B", "ok",
		"add content/b/c B", "ok",
		"build", "ok 3 3 0 4",
		"ship", "ok 4",
		"drop content/b/c", "ok",
		"add content/b/c/d D", "ok",
		"build", "ok 0 0 1 2",
		"plan", "error 6",
		"ship", "ok 2",
		"plan", "ok 0",
	)...)
}

// P10.13: a site with more outputs than can be checked is built, and no more.
func TestSessionManyOuts(t *testing.T) {
	lines := []string{"add site.set page 1", "ok", "add template/layout/section.html x", "ok", "add template/layout/page.html x", "ok", "add template/layout/bundle.html x", "ok"}
	for i := range 100 {
		lines = append(lines, fmt.Sprintf("add content/a/b%02d.page %%%%%%", i), "ok", fmt.Sprintf("add content/a/b%02d.page menus {}", i), "ok", fmt.Sprintf("add content/a/b%02d.page %%%%%%", i), "ok")
	}
	session(t, "many pages", append(lines, "build", "ok 102 201 0 201", "faults", "ok 201", "find home", "ok /", "ship", "ok 201", "get /a/page/100", "301 /a/page/100/")...)
	var deep []string
	for i := range 30 {
		deep = append(deep, fmt.Sprintf("add content/a/b%d/c%d/d%d/e%d/f.page x", i, i, i, i), "ok")
	}
	session(t, "more pages than can be searched", append(append(lines[:8:8], deep...), "build", "ok 152 181 0 181", "find x", "error 4", "ship", "ok 181")...)
}

// deskModel replies as the chapter says, by calls of the functions and a new builder's outputs.
type deskModel struct {
	files   map[string]string
	day     int
	builder *build.Builder
	job     build.Job
	shipped []api.Out
}

// reply is the reply to a line, which is of its form.
func (d *deskModel) reply(line string) string {
	l := strings.SplitN(line, " ", 3)
	var moved []ship.Redirect
	for _, a := range d.job.Moved {
		moved = append(moved, ship.Redirect{From: a.From, To: a.To})
	}
	outs := d.builder.Outs()
	count := func(n int, e api.Errno) string {
		if e != api.OK {
			return fmt.Sprint("error ", int(e))
		}
		return fmt.Sprint("ok ", n)
	}
	switch l[0] {
	case "add":
		d.files[l[1]] += l[2] + "\n"
		return "ok"
	case "drop":
		if _, ok := d.files[l[1]]; !ok {
			return "error 7"
		}
		delete(d.files, l[1])
		return "ok"
	case "day":
		d.day, _ = conf.ReadDay(l[1])
		return "ok"
	case "build":
		return d.build()
	case "get":
		r, e := ship.Serve(outs, moved, l[1])
		if e != api.OK {
			return fmt.Sprint("error ", int(e))
		}
		reply := fmt.Sprint(r.Code, " ", r.Path)
		if r.Code == 200 {
			reply += fmt.Sprint(" ", len(r.Body))
		}
		return strings.TrimSuffix(reply, " ")
	case "broken":
		links, e := ship.Broken(outs, moved)
		return count(len(links), e)
	case "faults":
		faults, e := ship.Faults(outs)
		return count(len(faults), e)
	case "plan":
		plan, e := ship.Plan(d.shipped, outs)
		return count(len(plan), e)
	case "ship":
		events, e := ship.Events(d.shipped, outs)
		d.shipped = outs
		return count(len(events), e)
	case "reads":
		reads, ok := d.builder.Reads(l[1])
		if !ok {
			return "error 7"
		}
		return "ok " + strings.Join(reads, " ")
	}
	return d.find(line[len("find "):])
}

func (d *deskModel) build() string {
	var files []api.File
	for path, body := range d.files {
		files = append(files, api.File{Path: path, Body: body})
	}
	sort.Slice(files, func(i, j int) bool { return files[i].Path < files[j].Path })
	job, fault := build.Load(files, d.day)
	var report build.Report
	if fault.E == api.OK {
		report, fault = d.builder.Build(job)
	}
	if fault.E != api.OK {
		return strings.TrimSuffix(fmt.Sprint("fault ", int(fault.E), " ", fault.Where), " ")
	}
	d.job = job
	return fmt.Sprint("ok ", len(report.Bodies), " ", len(report.Outs), " ", len(report.Removed), " ", len(report.Changed))
}

func (d *deskModel) find(query string) string {
	var docs []ship.Doc
	for _, b := range d.job.Bodies {
		content, _ := d.builder.Content(b.Address)
		v, _ := build.Fact(d.job.Facts, tree.FactName(b.Address))
		docs = append(docs, ship.Doc{Address: b.Address, Title: v.Items[slices.Index(v.Keys, "title")].Text, Text: content.Plain})
	}
	x, _ := ship.NewIndex(docs)
	hits, _ := ship.Search(x, query, 10)
	reply := "ok"
	for _, hit := range hits {
		reply += " " + hit.Address
	}
	return reply
}

// P10.13: random sessions.
func TestSessionRandom(t *testing.T) {
	r := rand.New(rand.NewSource(10))
	paths := words("content/_index.page content/a.page content/b/_index.page content/b/c.page content/d/index.page content/d/x.txt asset/y.txt template/layout/bundle.html")
	rests := []string{"", "cats *and* dogs", "# Head", "[x](/a/) [y](ref:../a)", "[z](none#q)", "<p>", "{< none />}", "b"}
	seen := map[string]int{}
	for range 300 {
		d := &deskModel{files: map[string]string{}, builder: build.New()}
		var in, want strings.Builder
		say := func(line string) {
			reply := d.reply(line)
			in.WriteString(line + "\n")
			want.WriteString(reply + "\n")
			seen[line[:min(3, len(line))]+reply[:2]]++
		}
		for _, line := range []string{"add site.set page 1; terms [\"tags\"]", "add template/layout/page.html <title>{{ .page.title }}</title>{{ .content.html }}", "add template/layout/section.html {{ each x in .items }}<a href=\"{{ $x.address }}\">{{ $x.title }}</a>{{ end }}"} {
			say(line)
		}
		for range 40 {
			switch r.Intn(12) {
			case 0, 1, 2:
				say("add " + pick(r, paths) + " " + pick(r, rests))
			case 3:
				path := pick(r, paths)
				say("add " + path + " %%%")
				say("add " + path + " " + pick(r, []string{"title \"Cats\"", "aliases [\"old\" \"b/x\"]", "draft true", "date 2024-01-01", "tags [\"x\"]"}))
				say("add " + path + " %%%")
			case 4:
				say("drop " + pick(r, paths))
			case 5:
				say("day " + pick(r, words("2023-12-31 2024-01-01")))
			case 6, 7:
				say("build")
			case 8:
				say("get " + pick(r, words("/ /a /a/ /b/ /b/c /old /b/x/ /d/x.txt /page/2/ x /%")))
			case 9:
				say(pick(r, words("broken faults plan plan ship")))
			case 10:
				say("find " + pick(r, []string{"cats", "the dog", "head", "home b", "c", ""}))
			default:
				say("reads " + pick(r, words("index.html a/index.html d/x.txt b/c/index.html")))
			}
		}
		if got := ship.Session(in.String()); got != want.String() {
			t.Fatalf("%s\n got %q\nwant %q", in.String(), got, want.String())
		}
	}
	for _, what := range words("addok drook droer buiok buifa get20 get30 get40 brook fauok plaok shiok reaok reaer") {
		if seen[what] < 30 {
			t.Errorf("%s: %d times", what, seen[what])
		}
	}
}

// P10.13: the state after a line with an error is that before it.
func TestSessionErrorsChangeNothing(t *testing.T) {
	lines := []string{"build", "ship", "add content/b.page cats", "build", "plan", "find cats", "get /b/", "drop content/b.page", "build", "ship", "plan"}
	wrong := []string{"add A x", "add x " + wide(api.MaxBody), "drop none", "day 2024-02-30", "see x 0", "reads x", "get x", "find " + wide(api.MaxPath+1), "x", ""}
	var plain, mixed strings.Builder
	for i := 0; i < len(base()); i += 2 {
		plain.WriteString(base()[i] + "\n")
	}
	mixed.WriteString(plain.String())
	for _, line := range lines {
		plain.WriteString(line + "\n")
		mixed.WriteString(line + "\n" + strings.Join(wrong[:1], "") + "\n" + strings.Join(wrong[2:], "\n") + "\n")
	}
	mixed.WriteString(wrong[1] + "\nbuild\n")
	var got []string
	for _, reply := range strings.Split(ship.Session(mixed.String()), "\n") {
		if !strings.HasPrefix(reply, "error ") {
			got = append(got, reply)
		}
	}
	want := strings.Split(ship.Session(plain.String()+"build\n"), "\n")
	same(t, "replies", got, want)
}
