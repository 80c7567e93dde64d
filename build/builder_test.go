package build_test

import (
	"strings"
	"testing"

	"masthead/api"
	"masthead/build"
	"masthead/mark"
	"masthead/page"
	"masthead/tmpl"
)

// step is a build, and what it reports.
type step struct {
	name                           string
	change                         func(j *build.Job)
	affected                       string
	bodies, outs, removed, changed string
}

// report is a report of words.
func report(s step) build.Report {
	return build.Report{Bodies: words(s.bodies), Outs: words(s.outs), Removed: words(s.removed), Changed: words(s.changed)}
}

// runSteps builds a job that is changed step by step. Each time a new builder makes the same outputs.
func runSteps(t *testing.T, j build.Job, steps []step) *build.Builder {
	t.Helper()
	b := build.New()
	for _, s := range steps {
		s.change(&j)
		affected, f := build.Affected(b, j)
		if f != none || show(affected) != show(words(s.affected)) {
			t.Errorf("%s: affected %v %+v", s.name, affected, f)
		}
		got, f := b.Build(j)
		if f != none {
			t.Fatalf("%s: %+v", s.name, f)
		}
		same(t, s.name, got, report(s))
		same(t, s.name+": outputs", b.Outs(), built(t, j).Outs())
	}
	return b
}

// P9.2: bodies are rendered with the set, the facts, their address, text and words; outputs with their fact as the dot, and with the contents.
func TestBuild(t *testing.T) {
	j := build.Job{
		Set: set(
			"call", `{{ call "own" fact("content:/a/") }}`,
			"dot", `{{ .x }}`,
			"hook/heading", `<h>{{ .inner }}</h>`,
			"html", `{{ .html }}{{ .summary }}{{ .plain }}{{ .words }}{{ each x in .contents }}{{ $x.id }}{{ end }}`,
			"own", `[{{ .words }}]`,
			"short/f", `{{ fact("content:/a/").words }}{{ fact("x").x }}{{ .page.x }}`,
			"text", "<>",
		),
		Facts:  named("chain", fact("x"), "page:/", table("x", text("P")), "page:/b/", table(), "x", table("x", text("<X>"))),
		Bodies: []build.Body{{Address: "/", Text: "{< f />}\n"}, {Address: "/a/", Text: "# A\n\n[b](ref:/b/) *c*\n", Words: 1}},
		Wants: wants("a", "html", "content:/a/", "b", "dot", "x", "c", "dot", "none", "d", "call", "", "e", "dot", "chain",
			"f", "html", "content:/", "g", "text", "template:x"),
		Copies: outs("0", "zero", "z/z", ""),
	}
	b := build.New()
	rep, f := b.Build(j)
	if f != none {
		t.Fatal(f)
	}
	same(t, "report", rep, build.Report{Bodies: words("/ /a/"), Outs: words("a b c d e f g"), Changed: words("0 a b c d e f g z/z")})
	same(t, "outputs", b.Outs(), outs("0", "zero",
		"a", "<h>A</h>\n<p><a href=\"/b/\">b</a> <em>c</em></p>\n<h1 id=\"a\">A</h1>\nA\nb c\n3a",
		"b", "&lt;X&gt;", "c", "", "d", "[3]", "e", "&lt;X&gt;", "f", "&lt;X&gt;P\n0", "g", "<>", "z/z", ""))
	for path, want := range map[string]string{
		"a": "template:html content:/a/", "b": "template:dot x", "c": "template:dot none", "d": "template:call template:own content:/a/",
		"e": "template:dot chain x", "f": "template:html content:/", "g": "template:text",
	} {
		got, ok := b.Reads(path)
		if !ok || show(got) != show(words(want)) {
			t.Errorf("%s has read %v %v", path, got, ok)
		}
	}
	for _, path := range []string{"", "0", "z/z", "h", "/a/"} {
		if got, ok := b.Reads(path); ok || got != nil {
			t.Errorf("%s has read %v %v", path, got, ok)
		}
	}
	c, ok := b.Content("/a/")
	want := page.Content{
		HTML: "<h>A</h>\n<p><a href=\"/b/\">b</a> <em>c</em></p>\n", Summary: "<h1 id=\"a\">A</h1>\n", Plain: "A\nb c\n", Words: 3,
		Contents: []mark.Entry{{Level: 1, Id: "a", Text: "A"}}, Reads: words("template:hook/heading template:hook/link page:/b/"),
	}
	if !ok || show(c) != show(want) {
		t.Errorf("content %+v %v", c, ok)
	}
	c, ok = b.Content("/")
	if !ok || show(c.Reads) != show(words("template:short/f content:/a/ x page:/")) {
		t.Errorf("content %+v %v", c, ok)
	}
	for _, address := range []string{"", "a", "/b/", "/a"} {
		if c, ok := b.Content(address); ok || show(c) != show(page.Content{}) {
			t.Errorf("content of %s: %+v %v", address, c, ok)
		}
	}
}

// P9.2: the words of a body are those of its summary.
func TestBuildWords(t *testing.T) {
	for words, want := range []string{"", "<p>a b</p>\n", "<p>a b</p>\n", "<p>a b</p>\n<p>c</p>\n"} {
		b := built(t, build.Job{Bodies: []build.Body{{Address: "/", Text: "a b\n\nc\n\nd\n", Words: words}}})
		if c, _ := b.Content("/"); c.Summary != want {
			t.Errorf("%d words: %q, not %q", words, c.Summary, want)
		}
	}
}

// P9.2: templates that call themselves, each other, and one of them twice.
func TestBuildCalls(t *testing.T) {
	j := build.Job{
		Set: set(
			"a", `{{ if .x }}{{ call "b" .x }}{{ call "c" . }}{{ else }}end{{ end }}`,
			"b", `{{ call "a" . }}{{ call "c" . }}{{ if .x }}{{ call "b" .x }}{{ end }}`,
			"c", "c", "d", "d",
		),
		Facts: named("t", table("x", table("x", table("x", number(1))))),
		Wants: wants("a", "a", "t", "b", "b", "t", "c", "c", "t", "d", "a", "none"),
	}
	b := built(t, j)
	for i, out := range b.Outs() {
		result, e := tmpl.Run(j.Set, j.Wants[i].Template, fact(j.Wants[i].Fact), j.Facts)
		reads, _ := b.Reads(out.Path)
		expect(t, out.Path, []any{out.Body, reads}, e, []any{tmpl.String(result.Pieces), result.Reads}, api.OK)
	}
	j.Set[1].Text = `{{ call "b" . }}`
	if _, f := b.Build(j); f != at("a", api.ErrDeep) {
		t.Errorf("without an end: %+v", f)
	}
}

// faulty is a job in which nothing is wrong before it is rendered.
func faulty() build.Job {
	return build.Job{
		Set:    set("a", "{{ .x }}", "b", `{{ len(.) }}`, "large", strings.Repeat("{{ . }}", 400), "short/s", `{{ add(., 1) }}`),
		Facts:  named("l", text(wide(5000)), "t", table("x", text("y"))),
		Bodies: bodies("/", "r", "/a/", "a"),
		Wants:  wants("a", "a", "t", "b", "a", "t"),
	}
}

// P9.2: the first error of a body, else of an output. With a fault nothing is changed.
func TestBuildFaults(t *testing.T) {
	b := built(t, faulty())
	before := show(b)
	for name, c := range map[string]struct {
		change func(j *build.Job)
		want   build.Fault
	}{
		"a body with a byte":      {func(j *build.Job) { j.Bodies[1].Text = "\x01" }, at("/a/", api.ErrByte)},
		"a large body":            {func(j *build.Job) { j.Bodies[1].Text = wide(api.MaxBody + 1) }, at("/a/", api.ErrLarge)},
		"no shortcode":            {func(j *build.Job) { j.Bodies[1].Text = "{< x />}" }, at("/a/", api.ErrNone)},
		"a shortcode's run":       {func(j *build.Job) { j.Bodies[1].Text = "{< s />}" }, at("/a/", api.ErrKind)},
		"two bodies":              {func(j *build.Job) { j.Bodies[0].Text, j.Bodies[1].Text = "{< x />}", "\x01" }, at("/", api.ErrNone)},
		"an output's run":         {func(j *build.Job) { j.Wants[1] = build.Want{Path: "b", Template: "b", Fact: "none"} }, at("b", api.ErrKind)},
		"a large output":          {func(j *build.Job) { j.Wants[1] = build.Want{Path: "b", Template: "large", Fact: "l"} }, at("b", api.ErrLarge)},
		"two outputs":             {func(j *build.Job) { j.Wants = wants("a", "large", "l", "b", "b", "none") }, at("a", api.ErrLarge)},
		"a body before an output": {func(j *build.Job) { j.Wants[0].Fact, j.Wants[0].Template, j.Bodies[1].Text = "", "b", "\x01" }, at("/a/", api.ErrByte)},
		"the job before a body":   {func(j *build.Job) { j.Wants[0].Path, j.Bodies[1].Text = "", "\x01" }, at("", api.ErrPath)},
		"an output after a change": {func(j *build.Job) {
			j.Bodies[0].Text, j.Facts, j.Wants[1] = "new", nil, build.Want{Path: "c", Template: "b"}
		}, at("c", api.ErrKind)},
	} {
		j := faulty()
		c.change(&j)
		rep, f := b.Build(j)
		if f != c.want || show(rep) != show(build.Report{}) {
			t.Errorf("%s: %+v %+v", name, rep, f)
		}
		if _, f := build.New().Build(j); f != c.want {
			t.Errorf("%s, new: %+v", name, f)
		}
		if show(b) != before {
			t.Fatalf("%s: the builder has changed", name)
		}
	}
	rep, f := b.Build(faulty())
	if f != none || show(rep) != show(build.Report{}) {
		t.Errorf("the same again: %+v %+v", rep, f)
	}
}
