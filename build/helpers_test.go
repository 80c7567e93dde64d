package build_test

import (
	"fmt"
	"strings"
	"testing"

	"masthead/api"
	"masthead/build"
	"masthead/tmpl"
	"masthead/tree"
)

// wide is a string of so many bytes.
func wide(n int) string { return strings.Repeat("x", n) }

// show writes anything as a line; empty and nil lists are the same.
func show(x any) string { return fmt.Sprintf("%+v", x) }

// short is the beginning of a string, for messages.
func short(s string) string {
	if len(s) > 1500 {
		return fmt.Sprintf("%q.. (%d bytes)", s[:1500], len(s))
	}
	return fmt.Sprintf("%q", s)
}

// expect checks what a call returns with its error.
func expect(t *testing.T, name string, got any, e api.Errno, want any, wantError api.Errno) {
	t.Helper()
	if e != wantError || show(got) != show(want) {
		t.Errorf("%s\n got %s, error %d\nwant %s, error %d", short(name), short(show(got)), e, short(show(want)), wantError)
	}
}

// same checks what a call returns.
func same(t *testing.T, name string, got, want any) {
	t.Helper()
	expect(t, name, got, api.OK, want, api.OK)
}

// at is a fault somewhere; none, if all is well.
func at(where string, e api.Errno) build.Fault { return build.Fault{Where: where, E: e} }

var none build.Fault

func boolean(b bool) api.Value      { return api.Value{Kind: api.Bool, Bool: b} }
func number(n int) api.Value        { return api.Value{Kind: api.Int, Int: n} }
func text(s string) api.Value       { return api.Value{Kind: api.String, Text: s} }
func day(n int) api.Value           { return api.Value{Kind: api.Day, Int: n} }
func safe(s string) api.Value       { return api.Value{Kind: api.Safe, Text: s} }
func fact(name string) api.Value    { return api.Value{Kind: api.Fact, Text: name} }
func list(l ...api.Value) api.Value { return api.Value{Kind: api.List, Items: l} }

func texts(l ...string) api.Value {
	v := list()
	for _, s := range l {
		v.Items = append(v.Items, text(s))
	}
	return v
}

func facts(l ...string) api.Value {
	v := list()
	for _, s := range l {
		v.Items = append(v.Items, fact(s))
	}
	return v
}

// table is a Table of keys and values, in turn.
func table(l ...any) api.Value {
	v := api.Value{Kind: api.Table}
	for i := 0; i < len(l); i += 2 {
		v.Keys, v.Items = append(v.Keys, l[i].(string)), append(v.Items, l[i+1].(api.Value))
	}
	return v
}

// deep is a value of so many levels.
func deep(levels int) api.Value {
	v := list()
	for range levels - 1 {
		v = list(v)
	}
	return v
}

// named are facts of names and values, in turn.
func named(l ...any) []api.Named {
	var out []api.Named
	for i := 0; i < len(l); i += 2 {
		out = append(out, api.Named{Name: l[i].(string), Value: l[i+1].(api.Value)})
	}
	return out
}

// set are templates of names and texts, in turn.
func set(l ...string) []tmpl.Source {
	var out []tmpl.Source
	for i := 0; i < len(l); i += 2 {
		out = append(out, tmpl.Source{Name: l[i], Text: l[i+1]})
	}
	return out
}

// bodies are those of addresses and texts, in turn.
func bodies(l ...string) []build.Body {
	var out []build.Body
	for i := 0; i < len(l); i += 2 {
		out = append(out, build.Body{Address: l[i], Text: l[i+1], Words: 10})
	}
	return out
}

// wants are wanted outputs of paths, templates and facts, in turn.
func wants(l ...string) []build.Want {
	var out []build.Want
	for i := 0; i < len(l); i += 3 {
		out = append(out, build.Want{Path: l[i], Template: l[i+1], Fact: l[i+2]})
	}
	return out
}

// outs are outputs of paths and bodies, in turn.
func outs(l ...string) []api.Out {
	var out []api.Out
	for i := 0; i < len(l); i += 2 {
		out = append(out, api.Out{Path: l[i], Body: l[i+1]})
	}
	return out
}

// files are those of paths and bodies, in turn.
func files(l ...string) []api.File {
	var out []api.File
	for i := 0; i < len(l); i += 2 {
		out = append(out, api.File{Path: l[i], Body: l[i+1]})
	}
	return out
}

// words are the words of a string.
func words(s string) []string { return strings.Fields(s) }

// front is the body of a page with settings.
func front(settings string, rest string) string { return "%%%\n" + settings + "\n%%%\n" + rest }

// site is the site of pages, with paths and bodies in turn, on the day 0.
func site(t *testing.T, languages string, l ...string) tree.Site {
	t.Helper()
	sources, fault := tree.Read(files(l...), words(languages))
	if fault.E != api.OK {
		t.Fatalf("read: %+v", fault)
	}
	s, fault := tree.Publish(sources, words(languages), 20_000)
	if fault.E != api.OK {
		t.Fatalf("publish: %+v", fault)
	}
	return s
}

// valueOf is the value of the fact with a name.
func valueOf(t *testing.T, facts []api.Named, name string) api.Value {
	t.Helper()
	v, ok := build.Fact(facts, name)
	if !ok {
		t.Errorf("no fact %s", name)
	}
	return v
}

// names are those of facts.
func names(l []api.Named) []string {
	var out []string
	for _, f := range l {
		out = append(out, f.Name)
	}
	return out
}

// built is a builder that has built a job.
func built(t *testing.T, j build.Job) *build.Builder {
	t.Helper()
	b := build.New()
	if _, fault := b.Build(j); fault != none {
		t.Fatalf("build: %+v", fault)
	}
	return b
}
