package build_test

import (
	"testing"

	"masthead/api"
	"masthead/build"
	"masthead/tmpl"
)

// base is a job in which each way to read something is there.
func base() build.Job {
	return build.Job{
		Set: set(
			"all", `{{ fact("content:/").html }}{{ fact("content:/a/").html }}{{ fact("content:/b/").html }}`,
			"inner", "{{ .words }}",
			"layout", `{{ call "inner" .content }}{{ .title }}`,
			"short/s", `{{ fact("x") }}`,
			"words", `{{ fact("content:/a/").words }}`,
		),
		Facts: named(
			"out:/", table("content", fact("content:/"), "title", fact("title")),
			"out:/a/", table("content", fact("content:/a/"), "title", text("T")),
			"page:/a/", table(),
			"title", text("Title"),
			"x", text("X"),
		),
		Bodies: bodies("/", "[a](ref:/a/)\n", "/a/", "{< s />}\n# H\n"),
		Wants:  wants("all", "all", "", "index.html", "layout", "out:/", "to", "layout", "out:/a/", "words", "words", ""),
		Copies: outs("copy", "1"),
	}
}

func setFact(j *build.Job, name string, v api.Value) {
	l := append([]api.Named(nil), j.Facts...)
	for i := range l {
		if l[i].Name == name {
			l[i].Value = v
			j.Facts = l
			return
		}
		if l[i].Name > name {
			j.Facts = append(append(l[:i:i], api.Named{Name: name, Value: v}), l[i:]...)
			return
		}
	}
	j.Facts = append(l, api.Named{Name: name, Value: v})
}

func dropFact(j *build.Job, name string) {
	var l []api.Named
	for _, f := range j.Facts {
		if f.Name != name {
			l = append(l, f)
		}
	}
	j.Facts = l
}

func dropTemplate(j *build.Job, name string) {
	var l []tmpl.Source
	for _, s := range j.Set {
		if s.Name != name {
			l = append(l, s)
		}
	}
	j.Set = l
}

// P9.3, P9.4: what has read something that is another now is rendered again, and nothing else.
func TestSteps(t *testing.T) {
	const nothing = ""
	runSteps(t, base(), []step{
		{"first", func(j *build.Job) {}, "/ /a/ all index.html to words", "/ /a/", "all index.html to words", "", "all copy index.html to words"},
		{"nothing", func(j *build.Job) {}, nothing, nothing, nothing, nothing, nothing},
		{"a fact that nothing reads", func(j *build.Job) { setFact(j, "zz", number(1)) }, nothing, nothing, nothing, nothing, nothing},
		{"the same, another", func(j *build.Job) { setFact(j, "zz", number(2)) }, nothing, nothing, nothing, nothing, nothing},
		{"a fact of an output", func(j *build.Job) { setFact(j, "title", text("U")) }, "index.html", nothing, "index.html", nothing, "index.html"},
		{"of another kind, to the same effect", func(j *build.Job) { setFact(j, "title", safe("U")) }, "index.html", nothing, "index.html", nothing, nothing},
		{"without it", func(j *build.Job) { dropFact(j, "title") }, "index.html", nothing, "index.html", nothing, "index.html"},
		{"with Nil for it", func(j *build.Job) { setFact(j, "title", api.Value{}) }, "index.html", nothing, "index.html", nothing, nothing},
		{"a dot", func(j *build.Job) { setFact(j, "out:/a/", table("content", fact("content:/a/"))) }, "to", nothing, "to", nothing, "to"},
		{"a fact of a body", func(j *build.Job) { setFact(j, "x", text("Y")) }, "/a/ all to words", "/a/", "all to words", nothing, "all"},
		{"of another kind", func(j *build.Job) { setFact(j, "x", safe("Y")) }, "/a/ all to words", "/a/", nothing, nothing, nothing},
		{"a target with a value", func(j *build.Job) { setFact(j, "page:/a/", table("x", number(1))) }, "/ all index.html", "/", nothing, nothing, nothing},
		{"without a target", func(j *build.Job) { dropFact(j, "page:/a/") }, "/ all index.html", "/", "all index.html", nothing, "all"},
		{"a target that is none", func(j *build.Job) { setFact(j, "page:/a/", number(1)) }, "/ all index.html", "/", nothing, nothing, nothing},
		{"a template that is called", func(j *build.Job) { j.Set[1].Text += "!" }, "index.html to", nothing, "index.html to", nothing, "index.html to"},
		{"a template of a shortcode", func(j *build.Job) { j.Set[3].Text += "!" }, "/a/ all to words", "/a/", "all to words", nothing, "all"},
		{"a hook that is new", func(j *build.Job) { j.Set = append(set("hook/heading", "-"), j.Set...); sortSet(j) }, "/a/ all to words", "/a/", "all to words", nothing, "all"},
		{"a hook that is another", func(j *build.Job) { j.Set[1].Text = "+" }, "/a/ all to words", "/a/", "all to words", nothing, "all"},
		{"a hook that is gone", func(j *build.Job) { dropTemplate(j, "hook/heading") }, "/a/ all to words", "/a/", "all to words", nothing, "all"},
		{"a template that nothing reads", func(j *build.Job) { j.Set = append(j.Set, set("zz", "")...) }, nothing, nothing, nothing, nothing, nothing},
	})
}

func sortSet(j *build.Job) {
	l := append([]tmpl.Source(nil), j.Set...)
	for i := range l {
		for k := i; k > 0 && l[k].Name < l[k-1].Name; k-- {
			l[k], l[k-1] = l[k-1], l[k]
		}
	}
	j.Set = l
}

// P9.3, P9.4: bodies and outputs that are others, new or gone.
func TestStepsOfJobs(t *testing.T) {
	const nothing = ""
	runSteps(t, base(), []step{
		{"first", func(j *build.Job) {}, "/ /a/ all index.html to words", "/ /a/", "all index.html to words", "", "all copy index.html to words"},
		{"a text", func(j *build.Job) { j.Bodies[0].Text = "b c\n" }, "/ all index.html", "/", "all index.html", nothing, "all index.html"},
		{"a text with as many words", func(j *build.Job) { j.Bodies[0].Text = "d e\n" }, "/ all index.html", "/", "all index.html", nothing, "all"},
		{"a text to the same effect", func(j *build.Job) { j.Bodies[0].Text = "\n\nd e\n" }, "/ all index.html", "/", nothing, nothing, nothing},
		{"words", func(j *build.Job) { j.Bodies[0].Words = 0 }, "/ all index.html", "/", "all index.html", nothing, nothing},
		{"a new body", func(j *build.Job) { j.Bodies = append(j.Bodies, bodies("/b/", "B\n")...) }, "/b/ all", "/b/", "all", nothing, "all"},
		{"a body that is gone", func(j *build.Job) { j.Bodies = j.Bodies[1:] }, "all index.html", nothing, "all index.html", nothing, "all index.html"},
		{"a body that is there again", func(j *build.Job) { j.Bodies = append(bodies("/", "\n\nd e\n"), j.Bodies...) }, "/ all index.html", "/", "all index.html", nothing, "all index.html"},
		{"another template", func(j *build.Job) { j.Wants[3].Template = "inner" }, "words", nothing, "words", nothing, "words"},
		{"another fact", func(j *build.Job) { j.Wants[3].Fact = "none" }, "words", nothing, "words", nothing, nothing},
		{"another path", func(j *build.Job) { j.Wants[3].Path = "z" }, "z", nothing, "z", "words", "words z"},
		{"another copy", func(j *build.Job) { j.Copies = outs("copy", "2") }, nothing, nothing, nothing, nothing, "copy"},
		{"a new copy, and one that is gone", func(j *build.Job) { j.Copies = outs("c", "2") }, nothing, nothing, nothing, "copy", "c copy"},
		{"an output instead of a copy", func(j *build.Job) {
			j.Copies, j.Wants = nil, append(j.Wants[:1:1], append(wants("c", "words", ""), j.Wants[1:]...)...)
		}, "c", nothing, "c", nothing, "c"},
		{"a copy instead of an output", func(j *build.Job) { j.Copies, j.Wants = outs("c", "1"), append(j.Wants[:1:1], j.Wants[2:]...) }, nothing, nothing, nothing, nothing, nothing},
		{"the output again", func(j *build.Job) {
			j.Copies, j.Wants = nil, append(j.Wants[:1:1], append(wants("c", "words", ""), j.Wants[1:]...)...)
		}, "c", nothing, "c", nothing, nothing},
		{"fewer outputs", func(j *build.Job) { j.Wants = j.Wants[1:2] }, nothing, nothing, nothing, "all index.html to z", "all index.html to z"},
		{"nothing at all", func(j *build.Job) { *j = build.Job{} }, nothing, nothing, nothing, "c", "c"},
		{"all again", func(j *build.Job) { *j = base() }, "/ /a/ all index.html to words", "/ /a/", "all index.html to words", "", "all copy index.html to words"},
	})
}

// P9.3: a body has no contents to read, so it does not change with them; an output does, even by a name that no body has.
func TestStepsOfContents(t *testing.T) {
	const nothing = ""
	j := build.Job{
		Set:    set("short/s", `{{ fact("content:/b/").words }}{{ fact("template:zz") }}`, "w", `{{ .words }}`),
		Bodies: bodies("/a/", "{< s />}\n", "/b/", "b\n"),
		Wants:  wants("b", "w", "content:/b/", "c", "w", "content:/c/", "t", "w", "template:zz"),
	}
	b := runSteps(t, j, []step{
		{"first", func(j *build.Job) {}, "/a/ /b/ b c t", "/a/ /b/", "b c t", "", "b c t"},
		{"a content", func(j *build.Job) { j.Bodies[1].Text = "b c\n" }, "/b/ b", "/b/", "b", nothing, "b"},
		{"a new content", func(j *build.Job) { j.Bodies = append(j.Bodies, bodies("/c/", "c\n")...) }, "/c/ c", "/c/", "c", nothing, "c"},
		{"a content that is gone", func(j *build.Job) { j.Bodies = j.Bodies[:2] }, "c", nothing, "c", nothing, "c"},
		{"a template by its name", func(j *build.Job) { j.Set = append(j.Set, set("zz", "")...) }, "/a/ t", "/a/", "t", nothing, nothing},
		{"its text", func(j *build.Job) { j.Set[2].Text = "z" }, "/a/ t", "/a/", "t", nothing, nothing},
		{"without it", func(j *build.Job) { j.Set = j.Set[:2] }, "/a/ t", "/a/", "t", nothing, nothing},
	})
	if l, _ := b.Reads("c"); show(l) != show(words("template:w content:/c/")) {
		t.Error(l)
	}
}

// P9.3: what was is what was in the last build without a fault, also if nothing was rendered then; what was forgotten is read anew.
func TestStepsForgotten(t *testing.T) {
	const nothing = ""
	reader := wants("a", "words", "", "b", "t", "")
	j := build.Job{Set: set("t", `{{ fact("x") }}`, "words", `{{ fact("y") }}`), Facts: named("x", text("1"), "y", text("1")), Wants: reader}
	b := runSteps(t, j, []step{
		{"first", func(j *build.Job) {}, "a b", nothing, "a b", nothing, "a b"},
		{"without a reader of x", func(j *build.Job) { j.Wants = reader[:1] }, nothing, nothing, nothing, "b", "b"},
		{"another x", func(j *build.Job) { setFact(j, "x", text("2")) }, nothing, nothing, nothing, nothing, nothing},
		{"with the reader again", func(j *build.Job) { j.Wants = reader }, "b", nothing, "b", nothing, "b"},
		{"nothing new", func(j *build.Job) {}, nothing, nothing, nothing, nothing, nothing},
		{"x as it was at first", func(j *build.Job) { setFact(j, "x", text("1")) }, "b", nothing, "b", nothing, "b"},
		{"no x", func(j *build.Job) { dropFact(j, "x") }, "b", nothing, "b", nothing, "b"},
		{"x again", func(j *build.Job) { setFact(j, "x", text("1")) }, "b", nothing, "b", nothing, "b"},
	})
	bad := j
	bad.Facts = named("x", list(), "y", text("2"))
	if _, f := b.Build(bad); f != at("b", api.ErrKind) {
		t.Error(f)
	}
	if rep, f := b.Build(j); f != none || show(rep) != show(build.Report{}) {
		t.Error("after a fault", rep, f)
	}
}

// P9.4: a copy of a builder goes its own way, and so does the builder.
func TestCopy(t *testing.T) {
	b := built(t, base())
	one := b.Copy()
	j := base()
	j.Bodies[0].Text = "new\n"
	if _, f := b.Build(j); f != none {
		t.Fatal(f)
	}
	two := b.Copy()
	same(t, "the first copy", one.Outs(), built(t, base()).Outs())
	same(t, "the second copy", two.Outs(), built(t, j).Outs())
	rep, f := one.Build(base())
	if f != none || show(rep) != show(build.Report{}) {
		t.Error("the first copy, again", rep, f)
	}
	c, _ := one.Content("/")
	d, _ := two.Content("/")
	if c.Plain != "a\n" || d.Plain != "new\n" {
		t.Errorf("contents %q, %q", c.Plain, d.Plain)
	}
	if _, f := one.Build(build.Job{}); f != none || len(one.Outs()) != 0 || len(b.Outs()) != 5 || len(two.Outs()) != 5 {
		t.Error("after the first copy is empty", f)
	}
	if l, f := build.Affected(two, j); f != none || l != nil {
		t.Error("affected in the second copy", l, f)
	}
	if l, f := build.Affected(build.New().Copy(), base()); f != none || len(l) != 6 {
		t.Error("affected in a copy of nothing", l, f)
	}
}

// What builders have before they have built anything; also one that New has not made.
func TestNothingBuilt(t *testing.T) {
	for name, b := range map[string]*build.Builder{"new": build.New(), "zero": {}, "copy": build.New().Copy()} {
		_, content := b.Content("/")
		_, reads := b.Reads("a")
		if b.Outs() != nil || content || reads {
			t.Errorf("%s has something", name)
		}
		if _, f := b.Build(base()); f != none || len(b.Outs()) != 5 {
			t.Errorf("%s: %+v", name, f)
		}
	}
}
