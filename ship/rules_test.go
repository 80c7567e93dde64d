package ship_test

import (
	"fmt"
	"math"
	"math/rand"
	"reflect"
	"slices"
	"strings"
	"sync"
	"testing"
	"time"

	"masthead/api"
	"masthead/ship"
)

// arguments are those of all calls of callAll.
type arguments struct {
	html, path, address, title, base, text, query, request, session string
	old, next                                                       []api.Out
	moved                                                           []ship.Redirect
	entries                                                         []ship.Entry
	docs                                                            []ship.Doc
	index                                                           ship.Index
	step                                                            ship.Step
	day, most                                                       int
}

// results are all that calls return.
type results struct {
	tokens        []ship.Token
	address, path string
	links         []ship.Link
	ids           []string
	broken        []ship.Link
	faults        []ship.Fault
	good, left    []ship.Redirect
	feed, siteMap string
	words         []string
	stem          string
	made          ship.Index
	indexText     string
	read          ship.Index
	hits          []ship.Hit
	plan          []ship.Step
	applied       []api.Out
	reply         ship.Reply
	events        []string
	session       string
	checked       api.Errno
	errors        [18]api.Errno
}

// callAll calls each function.
func callAll(a arguments) results {
	var r results
	r.checked = ship.CheckOuts(a.next)
	r.tokens, r.errors[0] = ship.Tokens(a.html)
	r.address, r.errors[1] = ship.Address(a.path)
	r.path, r.errors[2] = ship.Path(a.address)
	r.links, r.errors[3] = ship.Links(a.next)
	r.ids, r.errors[4] = ship.Ids(a.html)
	r.broken, r.errors[5] = ship.Broken(a.next, a.moved)
	r.faults, r.errors[6] = ship.Faults(a.next)
	r.good, r.left, r.errors[7] = ship.Moved(a.next, a.moved)
	r.feed, r.errors[8] = ship.Feed(a.title, a.base, a.day, a.entries, a.most)
	r.siteMap, r.errors[9] = ship.SiteMap(a.base, a.next)
	r.words, r.stem = ship.Words(a.text), ship.Stem(a.text)
	r.made, r.errors[10] = ship.NewIndex(a.docs)
	r.indexText, r.errors[11] = ship.IndexText(a.index)
	r.read, r.errors[12] = ship.ReadIndex(a.text)
	r.hits, r.errors[13] = ship.Search(a.index, a.query, a.most)
	r.plan, r.errors[14] = ship.Plan(a.old, a.next)
	r.applied, r.errors[15] = ship.Apply(a.old, a.step)
	r.reply, r.errors[16] = ship.Serve(a.next, a.moved, a.request)
	r.events, r.errors[17] = ship.Events(a.old, a.next)
	r.session = ship.Session(a.session)
	return r
}

var strange = []string{"", "a", "/", "/a/", "a/b", "/index.html", "//", "A", "x y", "\x00", "\xff", "\n", "<", "</", "<a href=\"", "%", "%4", "#", "?", "..", "doc / 0 \n", "term a 0:1\n", wide(41), wide(201), "cats", "add a b\n", "build\n"}

func anyNumber(r *rand.Rand) int {
	return pick(r, []int{0, 1, 2, 50, 60, 120, -1, 61, api.MaxDay, api.MaxDay + 1, math.MinInt, math.MaxInt})
}

// anyOuts are some outputs, most often valid.
func anyOuts(r *rand.Rand) []api.Out {
	_, l := anySites(r)
	if r.Intn(3) == 0 {
		l = append(l, api.Out{Path: pick(r, strange), Body: pick(r, append(strange, tooMany))})
	}
	if r.Intn(6) == 0 && len(l) > 0 {
		l[r.Intn(len(l))].Path = pick(r, somePaths)
	}
	return l
}

// anyIndex is the index of some documents, with something wrong or not.
func anyIndex(r *rand.Rand) ship.Index {
	x, _ := ship.NewIndex(anyDocs(r))
	if len(x.Docs) > 0 && len(x.Terms) > 0 {
		doc, term := &x.Docs[r.Intn(len(x.Docs))], &x.Terms[r.Intn(len(x.Terms))]
		switch r.Intn(12) {
		case 0:
			doc.Address = pick(r, strange)
		case 1:
			doc.Title, doc.Text = pick(r, strange), pick(r, strange)
		case 2:
			x.Sizes[0] = anyNumber(r)
		case 3:
			x.Sizes = x.Sizes[1:]
		case 4:
			term.Word = pick(r, strange)
		case 5:
			term.Docs[0] = anyNumber(r)
		case 6:
			term.Many[0] = anyNumber(r)
		case 7:
			term.Docs = nil
		}
	}
	return x
}

// anyArguments are arguments that are right or not.
func anyArguments(r *rand.Rand) arguments {
	a := arguments{
		html: mix(r, somePieces, 10), path: pick(r, append(strange, somePaths...)), address: "/" + pick(r, append(strange, somePaths...)), title: pick(r, strange), base: pick(r, strange), text: mix(r, strange, 2),
		query: mix(r, append(strange, someWords...), 3), request: "/" + pick(r, strange), session: mix(r, append(strange, "get /\n", "plan\n", "ship\n", "see a 0\n", "find cats\n", "day 1970-01-02\n"), 10),
		old: anyOuts(r), next: anyOuts(r), docs: anyDocs(r), index: anyIndex(r), day: anyNumber(r), most: anyNumber(r), step: ship.Step{Remove: r.Intn(2) == 0},
	}
	if r.Intn(4) == 0 {
		a.html, a.request = tooMany, pick(r, strange)
	}
	for range r.Intn(3) {
		a.moved = append(a.moved, ship.Redirect{From: "/" + pick(r, strange), To: "/" + pick(r, words("a b.html c e d/"))})
		a.entries = append(a.entries, ship.Entry{Address: "/" + pick(r, strange), Title: pick(r, strange), Day: anyNumber(r)})
	}
	if r.Intn(5) == 0 {
		a.docs = append(a.docs, ship.Doc{Address: pick(r, strange), Title: pick(r, strange)})
	}
	if len(a.old) > 0 && r.Intn(2) == 0 {
		a.step.Files = outs(pick(r, a.old).Path, pick(r, []string{"", "", "x"}))
	} else {
		a.step.Files = anyOuts(r)
	}
	return a
}

// Z1: no call panics, whatever it is given.
func TestNothingPanics(t *testing.T) {
	r := rand.New(rand.NewSource(11))
	for range 600 {
		callAll(anyArguments(r))
	}
	const many = 60_000
	for _, s := range []string{"a/", "/", "<", "<a>", "<a href=\"/", "</a>", "<!--", "<title>", "%41", "../", "#?", "\x00", "\xff", "a ", "doc / 0 \n", "term a 0:1\n", "add a b\n", "build\n", "plan\n"} {
		s = strings.Repeat(s, many)
		a := arguments{html: s, path: s, address: s, title: s, base: s, text: s, query: s, request: s, session: s, old: outs(s, s), next: outs(s, s), moved: redirects(s, s), entries: []ship.Entry{{Title: s, Address: s, Summary: s}}, docs: docs(s, s, s), index: ship.Index{Docs: docs(s, s, s), Sizes: []int{1}, Terms: []ship.Term{{Word: s, Docs: []int{0}, Many: []int{1}}}}, step: ship.Step{Files: outs(s, s)}}
		callAll(a)
		s = s[:min(len(s), api.MaxOut/2)]
		a.html, a.session, a.address = s, s, "/"+s
		a.old, a.next, a.docs[0].Address, a.index.Docs = outs("a.html", a.html), outs("a.html", a.html, "b.html", ""), "/", docs("/", "", "")
		a.moved, a.request = nil, "/"+s[:100]
		callAll(a)
	}
	large := arguments{old: make([]api.Out, many), next: make([]api.Out, many), moved: make([]ship.Redirect, many), entries: make([]ship.Entry, many), docs: make([]ship.Doc, many), index: ship.Index{Docs: make([]ship.Doc, many), Sizes: make([]int, many), Terms: make([]ship.Term, many)}, step: ship.Step{Files: make([]api.Out, many)}}
	callAll(large)
	callAll(arguments{index: ship.Index{Docs: docs("/", "", ""), Sizes: []int{0}, Terms: []ship.Term{{Word: "a", Docs: make([]int, many), Many: make([]int, many)}}}})
}

// full are arguments with which each function returns something.
func full() arguments {
	site := outs("a.html", "<h2 id=x class=\"y\">x</h2><a href=none>x</a><a href=b.html>", "b.html", "<a href=a.html>x</a>", "c.png", "1", "d.html", "")
	return arguments{
		html: "a<b id=c d=e f=g>h<!-- i --><j id=k>", path: "a/b", address: "/a/", title: "T", base: "B", text: someText, query: "cat 1 é", request: "/old", session: "add a b\nbuild\nget /\n",
		old: outs("c.png", "2", "d.html", "1", "e.html", "", "f", ""), next: site, moved: redirects("/old", "/x", "/x", "/b.html", "/r", "/r"),
		entries: []ship.Entry{{Address: "/b", Title: "b"}, {Address: "/a", Title: "a"}}, docs: docs("/a", "A cat", "b c", "/b", "A", "b d"), index: some(), step: ship.Step{Files: outs("c.png", "x", "d.html", "y")}, day: 1, most: 5,
	}
}

// span is the memory of a list, with what is after its length.
type span struct {
	from, to uintptr
	where    string
}

// spans are those of all lists in a value.
func spans(v reflect.Value, where string) []span {
	var l []span
	switch v.Kind() {
	case reflect.Struct:
		for i := range v.NumField() {
			l = append(l, spans(v.Field(i), where+"."+v.Type().Field(i).Name)...)
		}
	case reflect.Slice, reflect.Array:
		if v.Kind() == reflect.Slice && v.Cap() > 0 {
			l = append(l, span{v.Pointer(), v.Pointer() + uintptr(v.Cap())*v.Type().Elem().Size(), where})
		}
		for i := range v.Len() {
			l = append(l, spans(v.Index(i), fmt.Sprint(where, ".", i))...)
		}
	}
	return l
}

// Z2: arguments stay as they are, and results are in memory of their own, no two lists of them in the same.
func TestArgumentsAndResults(t *testing.T) {
	a := full()
	r := callAll(a)
	if r.errors != [18]api.Errno{} || r.checked != api.OK {
		t.Fatalf("errors %v", r.errors)
	}
	if show(a) != show(full()) {
		t.Errorf("the arguments have changed:\n%s\n%s", show(full()), show(a))
	}
	if got, want := show(callAll(a)), show(callAll(full())); got != want {
		t.Errorf("other results the second time:\n%s\n%s", want, got)
	}
	results := spans(reflect.ValueOf(r), "result")
	if len(results) < 40 {
		t.Errorf("only %d lists", len(results))
	}
	all := append(results, spans(reflect.ValueOf(a), "argument")...)
	for i, x := range results {
		for _, y := range all[i+1:] {
			if x.from < y.to && y.from < x.to {
				t.Errorf("%s and %s share memory", x.where, y.where)
			}
		}
	}
	v := reflect.ValueOf(r)
	for i := range v.NumField() {
		if v.Field(i).IsZero() && v.Type().Field(i).Name != "checked" && v.Type().Field(i).Name != "errors" {
			t.Errorf("no %s", v.Type().Field(i).Name)
		}
	}
}

// roomy is a list with something behind it, and whether that is still there.
func roomy[T any](l []T, behind T) ([]T, func() bool) {
	l = append(slices.Clone(l), behind)[:len(l)]
	return l, func() bool { return reflect.DeepEqual(l[:len(l)+1][len(l)], behind) }
}

// Z2: what is after the length of a list stays as it is.
func TestBehindLists(t *testing.T) {
	a := full()
	var same [11]func() bool
	a.old, same[0] = roomy(a.old, api.Out{Path: "z"})
	a.next, same[1] = roomy(a.next, api.Out{Path: "z"})
	a.moved, same[2] = roomy(a.moved, ship.Redirect{From: "/z", To: "/"})
	a.entries, same[3] = roomy(a.entries, ship.Entry{Address: "/z"})
	a.docs, same[4] = roomy(a.docs, ship.Doc{Address: "/z"})
	a.index.Docs, same[5] = roomy(a.index.Docs, ship.Doc{Address: "/z"})
	a.index.Sizes, same[6] = roomy(a.index.Sizes, 9)
	a.index.Terms[0].Docs, same[7] = roomy(a.index.Terms[0].Docs, 9)
	a.index.Terms[0].Many, same[8] = roomy(a.index.Terms[0].Many, 9)
	a.index.Terms, same[9] = roomy(a.index.Terms, ship.Term{Word: "zz"})
	a.step.Files, same[10] = roomy(a.step.Files, api.Out{Path: "z"})
	if got, want := show(callAll(a)), show(callAll(full())); got != want {
		t.Errorf("what is behind lists counts:\n%s\n%s", got, want)
	}
	for i, same := range same {
		if !same() {
			t.Errorf("what is behind list %d has changed", i)
		}
	}
}

// Z3: beside an error all is zero.
func TestErrorsAlone(t *testing.T) {
	r := rand.New(rand.NewSource(12))
	var seen [18]int
	for range 1200 {
		x := callAll(anyArguments(r))
		zero := []bool{x.tokens == nil, x.address == "", x.path == "", x.links == nil, x.ids == nil, x.broken == nil, x.faults == nil, x.good == nil && x.left == nil, x.feed == "", x.siteMap == "",
			show(x.made) == show(ship.Index{}), x.indexText == "", show(x.read) == show(ship.Index{}), x.hits == nil, x.plan == nil, x.applied == nil, x.reply == ship.Reply{}, x.events == nil}
		for i, e := range x.errors {
			if e != api.OK && !zero[i] {
				t.Fatalf("result %d beside the error %d: %+v", i, e, x)
			}
			if e != api.OK {
				seen[i]++
			}
		}
	}
	if slices.Min(seen[:]) < 20 || slices.Max(seen[:]) > 1180 {
		t.Errorf("errors of the calls: %v", seen)
	}
}

// Z5: empty and nil lists are the same.
func TestEmptyLists(t *testing.T) {
	a := arguments{path: "a", address: "/", request: "/"}
	b := a
	b.old, b.next, b.moved, b.entries, b.docs, b.step.Files = []api.Out{}, []api.Out{}, []ship.Redirect{}, []ship.Entry{}, []ship.Doc{}, []api.Out{}
	b.index = ship.Index{Docs: []ship.Doc{}, Sizes: []int{}, Terms: []ship.Term{}}
	x, y := callAll(a), callAll(b)
	if show(x) != show(y) {
		t.Errorf("empty lists are not as nil ones are:\n%+v\n%+v", x, y)
	}
	if x.errors != [18]api.Errno{} {
		t.Errorf("%v", x.errors)
	}
}

// Z7: the same arguments give the same results, in whatever order goroutines run.
func TestSameResults(t *testing.T) {
	r := rand.New(rand.NewSource(13))
	var all []arguments
	var want []string
	for range 100 {
		a := anyArguments(r)
		all, want = append(all, a), append(want, show(callAll(a)))
	}
	var wait sync.WaitGroup
	for range 8 {
		wait.Go(func() {
			for i, a := range all {
				if show(callAll(a)) != want[i] {
					t.Errorf("%+v has other results the second time", a)
				}
			}
		})
	}
	wait.Wait()
}

// Z6: as much of everything as can be.
func TestLargeSite(t *testing.T) {
	begin := time.Now()
	l := manyOuts(4*api.MaxFiles, "")
	for i := range l {
		var b strings.Builder
		b.WriteString("<title>T</title>")
		for k := 0; b.Len() < 20_000; k++ {
			fmt.Fprintf(&b, "<p id=\"i%d\"><a href=\"/o%06d.html#i%d\">x</a></p>", k, (i*7+k*13)%len(l), k%300)
		}
		l[i].Body = b.String()
	}
	links, e := ship.Links(l)
	if e != api.OK || len(links) < 150_000 {
		t.Errorf("%d links, error %d", len(links), e)
	}
	broken, e := ship.Broken(l, manyRedirects(ship.MaxRedirects))
	expect(t, "broken", broken, e, nil, api.OK)
	faults, e := ship.Faults(l)
	expect(t, "faults", faults, e, nil, api.OK)
	plan, e := ship.Plan(nil, l)
	expect(t, "a plan", len(plan), e, 1, api.OK)
	var docs []ship.Doc
	for _, doc := range manyDocs(ship.MaxDocs) {
		doc.Text = strings.Repeat("cats and dogs ", api.MaxOut/14)
		docs = append(docs, doc)
	}
	x, e := ship.NewIndex(docs)
	expect(t, "an index", len(x.Terms), e, 3, api.OK)
	html := "<a href=\"" + strings.Repeat("a/../", api.MaxOut/5-20) + "#x\" id=x>x"
	broken, e = ship.Broken(outs("index.html", html), nil)
	expect(t, "a long target", broken, e, nil, api.OK)
	session := strings.Join([]string{"add site.set page 1", "add template/layout/page.html {{ .content.html }}", "add template/layout/section.html x", "add content/a.page cats", "build", ""}, "\n")
	replies := ship.Session(session + strings.Repeat("find cats\n", 15_000))
	if strings.Count(replies, "ok /a/\n") != 15_000 {
		t.Error(short(replies))
	}
	if took := time.Since(begin); took > 30*time.Second {
		t.Errorf("that took %v", took)
	}
}
