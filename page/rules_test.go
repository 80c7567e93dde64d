package page_test

import (
	"fmt"
	"math"
	"math/rand"
	"reflect"
	"slices"
	"strings"
	"sync"
	"testing"
	"time"

	"masthead/api"
	"masthead/mark"
	"masthead/page"
	"masthead/tmpl"
)

// arguments are those of all calls of callAll.
type arguments struct {
	body, line, address, ref, dest, id string
	parts                              []page.Part
	node                               mark.Node
	host                               page.Host
	words                              int
	content                            page.Content
}

// results are all that calls return.
type results struct {
	split      []page.Part
	at         int
	joined     string
	line       page.Part
	names      []string
	docs       [][]mark.Node
	missing    []string
	dots       []api.Value
	resolved   string
	references []string
	target     [2]string
	headings   []mark.Entry
	content    page.Content
	section    string
	text       string
	found      [2]bool
	errors     []api.Errno
}

// callAll calls each function.
func callAll(a arguments) results {
	var r results
	var e [9]api.Errno
	r.split, r.at, e[0] = page.Split(a.body)
	r.joined, e[1] = page.Join(a.parts)
	r.line, e[2] = page.Line(a.line)
	r.docs, e[3] = page.Documents(a.parts)
	r.resolved, e[4] = page.Resolve(a.address, a.ref)
	r.references, e[5] = page.References(a.body)
	r.headings, e[6] = page.Headings(a.body)
	r.content, e[7] = page.Render(a.host, a.body, a.words)
	r.text, e[8] = page.Text(a.body)
	r.errors = e[:]
	r.names, r.missing = page.Shortcodes(a.parts), page.Missing(a.parts, a.host.Set)
	var p page.Part
	if len(a.parts) > 0 {
		p = a.parts[0]
	}
	r.dots = []api.Value{page.Dot(p, a.address, a.ref), page.Fields(a.node, a.address, a.id, a.ref)}
	r.target[0], r.target[1], r.found[0] = page.Target(a.host, a.dest)
	r.section, r.found[1] = page.Section(a.content, a.id)
	return r
}

var strange = []string{"", "a", "/", "/a/", "//", "..", "../", "./a", "ref:", "ref:..#x", "asset:", "asset:x", "#", "{< ", "{< /", "{< a />}", "{< a >}", "{< /a >}", "{< a k=1 />}", "{< a \"", "```", "# A", "[a](ref:b)", "![a](asset:x)", ">>", "\x00", "\xff", "\n", "\"", "k", "javascript:x", strings.Repeat("a/", 101)}

func anyText(r *rand.Rand) string {
	s := strange[r.Intn(len(strange))]
	for range r.Intn(3) {
		s += []string{"", "\n", " "}[r.Intn(3)] + strange[r.Intn(len(strange))]
	}
	return s
}

func anyNumber(r *rand.Rand) int {
	return []int{0, 0, 1, 3, -1, 7, api.MaxBody, api.MaxBody + 1, math.MinInt, math.MaxInt}[r.Intn(10)]
}

// anyValue is a value with fields that fit or do not.
func anyValue(r *rand.Rand, deep int) api.Value {
	v := api.Value{Kind: r.Intn(9), Int: anyNumber(r), Text: anyText(r)}
	for range r.Intn(3) {
		if deep > 0 {
			v.Items = append(v.Items, anyValue(r, deep-1))
		}
		v.Keys = append(v.Keys, []string{"url", "a", ""}[r.Intn(3)])
	}
	return v
}

// anyParts are parts that a body has or not.
func anyParts(r *rand.Rand, deep int) []page.Part {
	var l []page.Part
	for range r.Intn(4) {
		p := page.Part{Ends: r.Intn(2) == 0}
		if r.Intn(2) == 0 {
			p.Text = anyText(r)
		}
		if r.Intn(2) == 0 {
			p.Name = anyText(r)
		}
		for range r.Intn(3) {
			p.Args = append(p.Args, page.Arg{Name: []string{"", "k", anyText(r)}[r.Intn(3)], Value: anyText(r)})
		}
		if deep > 0 {
			p.Inner = anyParts(r, deep-1)
		}
		l = append(l, p)
	}
	return l
}

// anyNode is a node of a document that is valid or not.
func anyNode(r *rand.Rand, deep int) mark.Node {
	n := mark.Node{Kind: r.Intn(20), Level: anyNumber(r), Text: anyText(r), Dest: anyText(r), Title: anyText(r)}
	for range r.Intn(3) {
		if deep > 0 {
			n.Kids = append(n.Kids, anyNode(r, deep-1))
		}
	}
	return n
}

// anyArguments are arguments that are right or not.
func anyArguments(r *rand.Rand) arguments {
	a := arguments{body: anyText(r), line: anyText(r), address: anyText(r), ref: anyText(r), dest: anyText(r), id: anyText(r), parts: anyParts(r, 3), node: anyNode(r, 3), words: anyNumber(r)}
	if r.Intn(2) == 0 {
		a.body = randomBody(r, 10)
	}
	if r.Intn(4) > 0 {
		a.address, a.words = "/a/", 3
	}
	a.host.Address = a.address
	for _, name := range []string{"hook/code", "hook/heading", "hook/image", "hook/link", "short/a", "short/b", "short/note"} {
		if r.Intn(4) > 0 {
			a.host.Set = append(a.host.Set, tmpl.Source{Name: name, Text: []string{"x", "{{ .inner }}", "{{ .text }}", "{{ .page.a }}", "{{ .named.k }}", "{{ .args[0] }}", "{{ call \"short/a\" . }}", "{{ fact(.dest) }}", "<p class=\"{{ .id }}\">", "{{ upper(1) }}", "{{"}[r.Intn(8+r.Intn(4))]})
		}
	}
	for range r.Intn(5) {
		a.host.Facts = append(a.host.Facts, api.Named{Name: []string{"page:/", "page:/a/", "asset:x", anyText(r)}[r.Intn(4)], Value: anyValue(r, 2)})
	}
	a.content = page.Content{HTML: anyText(r)}
	for range r.Intn(3) {
		a.content.Contents = append(a.content.Contents, mark.Entry{Level: anyNumber(r), Id: anyText(r), Text: anyText(r)})
		a.content.HTML += "<h1 id=\"a\">"
	}
	return a
}

// Z1: no call panics, whatever it is given.
func TestNothingPanics(t *testing.T) {
	r := rand.New(rand.NewSource(9))
	for range 6000 {
		callAll(anyArguments(r))
	}
	long, deep, node := strings.Repeat("a ", 100_000), page.Part{Text: "a\n"}, mark.Node{Kind: mark.Quote}
	short := deep
	for range 1_000_000 {
		deep = page.Part{Name: "a", Ends: true, Inner: parts(deep)}
		short = page.Part{Inner: parts(short)}
		node = mark.Node{Kind: mark.Heading, Kids: []mark.Node{node}}
	}
	for _, l := range [][]page.Part{parts(deep), parts(short), parts(text("\n"), deep), slices.Repeat(parts(whole(long, long)), 1000), slices.Repeat(parts(text("")), 100_000)} {
		callAll(arguments{body: long, line: "{< a \"" + long, address: long, ref: long, dest: "ref:" + long, id: long, parts: l, node: node, host: page.Host{Set: make([]tmpl.Source, 100_000), Facts: make([]api.Named, 100_000), Address: long}})
	}
	for _, line := range []string{"{< a" + strings.Repeat(" a", 1_000_000) + " />}", "{< a " + strings.Repeat("a", 1_000_000), "{< a \"" + strings.Repeat("\\\"", 1_000_000), "{< " + wide(1_000_000)} {
		page.Line(line)
	}
	page.Section(page.Content{Contents: make([]mark.Entry, 1_000_000)}, "a")
}

// full are arguments with which each function returns something.
func full() arguments {
	note := around("note", text("b\n"), whole("a", "k=v"), text("c\n"))
	note.Args = args("x", "k=y")
	return arguments{
		body: "# A [a](ref:x) ![b](asset:y)\n{< note x k=y >}\n## B\n{< a \"z\" />}\n[a](ref:)\n{< /note >}\n```\nx\n```",
		line: "{< a x k=y >}", address: "/a/", ref: "../b", dest: "ref:#x", id: "a",
		parts: parts(note, text("a\n\n- *b* c\n"), whole("a")),
		node:  mark.Node{Kind: mark.Heading, Level: 1, Kids: []mark.Node{{Kind: mark.Str, Text: "a"}}},
		host: page.Host{Address: "/a/",
			Set:   set("hook/code", "{{ .text }}", "hook/link", "{{ .inner }}{{ .page.title }}", "short/a", "{{ .named.k }}{{ each x in .args }}{{ $x }}{{ end }}", "short/note", "{{ .inner }}"),
			Facts: facts("page:/a/", table("title", str("T"), "list", listOf(num(1))), "asset:y", table("url", str("/y")))},
		words:   9,
		content: page.Content{HTML: "<h1 id=\"a\">", Contents: []mark.Entry{{Level: 1, Id: "a"}}, Reads: []string{"a"}, Broken: []string{"b"}},
	}
}

// span is the memory of a list, with what is after its length.
type span struct {
	from, to uintptr
	where    string
}

// spans are those of all lists in a value.
func spans(v reflect.Value, where string) []span {
	var l []span
	switch v.Kind() {
	case reflect.Struct:
		for i := range v.NumField() {
			l = append(l, spans(v.Field(i), where+"."+v.Type().Field(i).Name)...)
		}
	case reflect.Slice, reflect.Array:
		if v.Kind() == reflect.Slice && v.Cap() > 0 {
			l = append(l, span{v.Pointer(), v.Pointer() + uintptr(v.Cap())*v.Type().Elem().Size(), where})
		}
		for i := range v.Len() {
			l = append(l, spans(v.Index(i), fmt.Sprint(where, ".", i))...)
		}
	}
	return l
}

// Z2: arguments stay as they are, and results are in memory of their own, no two lists of them in the same.
func TestArgumentsAndResults(t *testing.T) {
	a := full()
	before := show(a)
	r := callAll(a)
	if slices.ContainsFunc(r.errors, func(e api.Errno) bool { return e != api.OK }) || !r.found[0] || !r.found[1] {
		t.Fatalf("errors %v", r.errors)
	}
	if len(r.split) != 3 || len(r.line.Args) != 2 || len(r.docs) != 3 || len(r.names) != 2 || len(r.references) != 3 || len(r.headings) != 2 || len(r.content.Reads) < 5 || len(r.content.Contents) != 2 || len(r.content.Broken) != 1 {
		t.Fatalf("%+v", r)
	}
	if after := show(a); after != before {
		t.Errorf("the arguments have changed:\n%s\n%s", before, after)
	}
	if got := show(callAll(a)); got != show(r) {
		t.Errorf("other results the second time:\n%s\n%s", show(r), got)
	}
	results := spans(reflect.ValueOf(r), "result")
	if len(results) < 30 {
		t.Errorf("only %d lists", len(results))
	}
	arguments := spans(reflect.ValueOf(a), "argument")
	for i, x := range results {
		for _, y := range slices.Concat(results[:i], arguments) {
			if x.from < y.to && y.from < x.to {
				t.Errorf("%s and %s share memory", x.where, y.where)
			}
		}
	}
}

// roomy is a list with something behind it, and whether that is still there.
func roomy[T any](l []T, behind T) ([]T, func() bool) {
	l = append(slices.Clone(l), behind)[:len(l)]
	return l, func() bool { return reflect.DeepEqual(l[:len(l)+1][len(l)], behind) }
}

// Z2: what is after the length of a list stays as it is.
func TestBehindLists(t *testing.T) {
	a := full()
	var same [8]func() bool
	a.parts[0].Inner, same[0] = roomy(a.parts[0].Inner, text("behind"))
	a.parts[0].Args, same[1] = roomy(a.parts[0].Args, page.Arg{Name: "behind"})
	a.parts, same[2] = roomy(a.parts, text("behind"))
	a.node.Kids, same[3] = roomy(a.node.Kids, mark.Node{Kind: 77})
	a.host.Set, same[4] = roomy(a.host.Set, tmpl.Source{Name: "behind"})
	a.host.Facts, same[5] = roomy(a.host.Facts, api.Named{Name: "behind"})
	a.content.Contents, same[6] = roomy(a.content.Contents, mark.Entry{Level: 77})
	v := &a.host.Facts[0].Value
	v.Keys, same[7] = roomy(v.Keys, "behind")
	if got, want := show(callAll(a)), show(callAll(full())); got != want {
		t.Errorf("what is behind lists counts:\n%s\n%s", got, want)
	}
	for i, same := range same {
		if !same() {
			t.Errorf("what is behind list %d has changed", i)
		}
	}
}

// Z3: beside an error all is zero, but the line of Split; beside a false, but for the chapter's Target.
func TestErrorsAlone(t *testing.T) {
	r := rand.New(rand.NewSource(10))
	var seen [9]int
	for range 6000 {
		x := callAll(anyArguments(r))
		zero := []bool{x.split == nil, x.joined == "", show(x.line) == show(page.Part{}), x.docs == nil, x.resolved == "", x.references == nil, x.headings == nil, show(x.content) == show(page.Content{}), x.text == ""}
		for i, e := range x.errors {
			if e != api.OK && !zero[i] {
				t.Fatalf("result %d beside error %d: %+v", i, e, x)
			}
			if e != api.OK {
				seen[i]++
			}
		}
		if x.errors[0] == api.OK && x.at != 0 || !x.found[1] && x.section != "" || !x.found[0] && x.target[0] != "#" {
			t.Fatalf("%+v", x)
		}
	}
	if slices.Min(seen[:]) < 100 || slices.Max(seen[:]) > 5900 {
		t.Errorf("errors of the calls: %v", seen)
	}
}

// Z5: empty and nil lists are the same.
func TestEmptyLists(t *testing.T) {
	var empty func(l []page.Part) []page.Part
	empty = func(l []page.Part) []page.Part {
		l = append([]page.Part{}, l...)
		for i, p := range l {
			l[i].Inner, l[i].Args = empty(p.Inner), append([]page.Arg{}, p.Args...)
		}
		return l
	}
	a, b := full(), full()
	b.parts = empty(b.parts)
	b.node.Kids[0].Kids = []mark.Node{}
	for i := range b.host.Facts {
		b.host.Facts[i].Value.Items[0].Items, b.host.Facts[i].Value.Items[0].Keys = []api.Value{}, []string{}
	}
	if got, want := show(callAll(b)), show(callAll(a)); got != want {
		t.Errorf("empty lists are not as nil ones are:\n%s\n%s", got, want)
	}
	b = arguments{parts: empty(nil), node: mark.Node{Kids: []mark.Node{}}, host: page.Host{Set: set()[0:], Facts: []api.Named{}}, content: page.Content{Contents: []mark.Entry{}}}
	if show(callAll(b)) != show(callAll(arguments{})) {
		t.Error("empty arguments are not as nil ones are")
	}
}

// Z7: the same arguments give the same results, in whatever order goroutines run.
func TestSameResults(t *testing.T) {
	r := rand.New(rand.NewSource(11))
	var all []arguments
	var want []string
	for range 300 {
		a := anyArguments(r)
		all, want = append(all, a), append(want, show(callAll(a)))
	}
	var wait sync.WaitGroup
	for range 8 {
		wait.Go(func() {
			for i, a := range all {
				if show(callAll(a)) != want[i] {
					t.Errorf("%+v has other results the second time", a)
				}
			}
		})
	}
	wait.Wait()
}

// Z6: bodies as large as can be, with hooks from a set as large as can be. The set is read once, and not for each hook.
func TestLargeBodies(t *testing.T) {
	h := page.Host{Address: "/", Set: set("hook/link", "<a href=\"{{ .dest }}\">{{ .inner }}</a>", "short/x", "{{ .inner }}"), Facts: facts("page:/", table())}
	for i := range tmpl.MaxTemplates - 2 {
		h.Set = append(h.Set, tmpl.Source{Name: fmt.Sprintf("t%02d", i), Text: strings.Repeat("<p class=\"{{ .a }}\">{{ default(.b, 1) }}</p>", 440)})
	}
	body := strings.Repeat("[a](b) [c](ref:#d) ", 600)
	begin := time.Now()
	content, e := page.Render(h, body, 100)
	want := "<p>" + strings.TrimSuffix(strings.Repeat("<a href=\"b\">a</a> <a href=\"/#d\">c</a> ", 600), " ") + "</p>\n"
	if e != api.OK || content.HTML != want || content.Summary != want {
		t.Errorf("%s, error %d", short(content.HTML), e)
	}
	opening, closing := strings.Repeat("{< x >}\n", 12), strings.Repeat("{< /x >}\n", 12)
	body = strings.Repeat(opening+"# a\n"+closing, 15)
	content, e = page.Render(h, body, 100)
	if e != api.OK || len(content.Contents) != 15 || !strings.HasSuffix(content.HTML, "<h1 id=\"a-15\">a</h1>\n"+strings.Repeat("\n", 12)) {
		t.Errorf("%s, error %d", short(content.HTML), e)
	}
	if took := time.Since(begin); took > 20*time.Second {
		t.Errorf("that took %v", took)
	}
}
