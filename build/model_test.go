package build_test

import (
	"fmt"
	"math/rand"
	"slices"
	"strings"
	"testing"

	"masthead/api"
	"masthead/build"
	"masthead/page"
	"masthead/tmpl"
)

// model builds as the chapter says it, word by word; it keeps the whole job that it has built.
type model struct {
	job      build.Job
	contents map[string]page.Content
	outs     map[string]string
	reads    map[string][]string
}

// equal says whether a name is the same in two jobs; contents are there for outputs alone.
func equal(name string, a, b build.Job, contentsA, contentsB map[string]page.Content) bool {
	find := func(j build.Job, contents map[string]page.Content) string {
		if rest, ok := strings.CutPrefix(name, "template:"); ok {
			i := slices.IndexFunc(j.Set, func(s tmpl.Source) bool { return s.Name == rest })
			if i < 0 {
				return "none"
			}
			return "text " + j.Set[i].Text
		}
		if rest, ok := strings.CutPrefix(name, "content:"); ok {
			c, ok := contents[rest]
			return fmt.Sprint(c.HTML, "\x00", c.Summary, "\x00", c.Plain, "\x00", c.Contents, c.Words, ok)
		}
		i := slices.IndexFunc(j.Facts, func(f api.Named) bool { return f.Name == name })
		if i < 0 {
			return "none"
		}
		return "value " + show(j.Facts[i].Value)
	}
	return find(a, contentsA) == find(b, contentsB)
}

// keptBody and keptWant are P9.3.
func (m *model) keptBody(body build.Body, j build.Job) bool {
	c, ok := m.contents[body.Address]
	return ok && slices.Contains(m.job.Bodies, body) && !slices.ContainsFunc(c.Reads, func(name string) bool { return !equal(name, m.job, j, nil, nil) })
}

func (m *model) keptWant(want build.Want, j build.Job, contents map[string]page.Content) bool {
	return slices.Contains(m.job.Wants, want) && !slices.ContainsFunc(m.reads[want.Path], func(name string) bool { return !equal(name, m.job, j, m.contents, contents) })
}

// build is P9.2 and P9.4.
func (m *model) build(j build.Job) (build.Report, build.Fault) {
	var r build.Report
	if f := build.CheckJob(j); f != none {
		return r, f
	}
	next := model{j, map[string]page.Content{}, map[string]string{}, map[string][]string{}}
	all := slices.Clone(j.Facts)
	for _, b := range j.Bodies {
		c := m.contents[b.Address]
		if !m.keptBody(b, j) {
			var e api.Errno
			if c, e = page.Render(page.Host{Set: j.Set, Facts: j.Facts, Address: b.Address}, b.Text, b.Words); e != api.OK {
				return build.Report{}, at(b.Address, e)
			}
			r.Bodies = append(r.Bodies, b.Address)
		}
		next.contents[b.Address] = c
		all = append(all, api.Named{Name: "content:" + b.Address, Value: build.ContentFact(c)})
	}
	for _, w := range j.Wants {
		next.outs[w.Path], next.reads[w.Path] = m.outs[w.Path], m.reads[w.Path]
		if !m.keptWant(w, j, next.contents) {
			result, e := tmpl.Run(j.Set, w.Template, fact(w.Fact), all)
			if e != api.OK {
				return build.Report{}, at(w.Path, e)
			}
			next.outs[w.Path], next.reads[w.Path] = tmpl.String(result.Pieces), result.Reads
			r.Outs = append(r.Outs, w.Path)
		}
	}
	for _, c := range j.Copies {
		next.outs[c.Path] = c.Body
	}
	for path, body := range next.outs {
		if old, ok := m.outs[path]; !ok || old != body {
			r.Changed = append(r.Changed, path)
		}
	}
	for path := range m.outs {
		if _, ok := next.outs[path]; !ok {
			r.Removed, r.Changed = append(r.Removed, path), append(r.Changed, path)
		}
	}
	slices.Sort(r.Removed)
	slices.Sort(r.Changed)
	*m = next
	return r, none
}

// affected is Affected.
func (m *model) affected(j build.Job) []string {
	var l []string
	for _, b := range j.Bodies {
		if !m.keptBody(b, j) {
			l = append(l, b.Address)
		}
	}
	bodies := slices.Clone(l)
	contents := map[string]page.Content{} // as they were; where that is not known, it does not matter
	for _, b := range j.Bodies {
		contents[b.Address] = m.contents[b.Address]
	}
	for _, w := range j.Wants {
		reads := slices.ContainsFunc(bodies, func(address string) bool { return slices.Contains(m.reads[w.Path], "content:"+address) })
		if reads || !m.keptWant(w, j, contents) {
			l = append(l, w.Path)
		}
	}
	return l
}

var someTemplates = []tmpl.Source{
	{Name: "hook/code", Text: "<pre>{{ .text }}</pre>"}, {Name: "hook/heading", Text: `<b>{{ .inner }}</b>{{ fact("x") }}`}, {Name: "hook/image", Text: `{{ .dest }}`}, {Name: "hook/link", Text: `<i>{{ .inner }}</i>`},
	{Name: "short/a", Text: `{{ fact("x") }}`}, {Name: "short/b", Text: `{{ .inner }}{{ fact("content:/a/").words }}{{ call "w" . }}`}, {Name: "short/c", Text: `{{ fact("template:w") }}`},
	{Name: "u", Text: `{{ .words }}{{ fact("x") }}`}, {Name: "v", Text: `{{ fact("content:/").html }}{{ fact("content:/b/").html }}`}, {Name: "w", Text: `w`}, {Name: "x", Text: `{{ call "u" . }}{{ fact("y").z }}`}, {Name: "y", Text: `{{ if fact("x") }}{{ fact("content:/a/").plain }}{{ else }}{{ fact("z") }}{{ end }}`},
}

var someTexts = []string{"a\n", "*a*\n", "# H\n\na b\n", "[l](ref:/a/)\n", "[l](ref:b)\n", "![i](asset:i)\n", "{< a />}\n", "{< b >}\n# I\n{< /b >}\n", "{< c />}\n", "```\nf\n```\n", "[l](/x) {< a />}\n", "\x01", ""}

var someValues = []api.Value{{}, text("1"), text("2"), safe("1"), number(1), fact("y"), fact("content:/a/"), table("z", fact("content:/b/")), table("z", text("1")), table("url", text("/i")), list()}

var someNames = words("asset:i page:/a/ page:/b/ x y z")
var someAddresses = words("/ /a/ /b/ /b/c/")
var someOuts = words("a a-b a/b b c d/e f")

func pick[T any](r *rand.Rand, l []T) T { return l[r.Intn(len(l))] }

// altered is a list with one element more, less or another. The list stays sorted by what names its elements.
func altered[T any](r *rand.Rand, l []T, x T, name func(T) string) []T {
	l = slices.DeleteFunc(slices.Clone(l), func(y T) bool { return name(y) == name(x) })
	if r.Intn(3) > 0 {
		l = append(l, x)
	}
	slices.SortFunc(l, func(a, b T) int { return strings.Compare(name(a), name(b)) })
	return l
}

// alter changes something in a job.
func alter(r *rand.Rand, j *build.Job) {
	switch r.Intn(5) {
	case 0:
		s := pick(r, someTemplates)
		if r.Intn(3) == 0 {
			s.Text += "!"
		}
		j.Set = altered(r, j.Set, s, func(s tmpl.Source) string { return s.Name })
	case 1:
		j.Facts = altered(r, j.Facts, api.Named{Name: pick(r, someNames), Value: pick(r, someValues)}, func(f api.Named) string { return f.Name })
	case 2:
		j.Bodies = altered(r, j.Bodies, build.Body{Address: pick(r, someAddresses), Text: pick(r, someTexts), Words: r.Intn(3)}, func(b build.Body) string { return b.Address })
	case 3:
		j.Wants = altered(r, j.Wants, build.Want{Path: pick(r, someOuts), Template: pick(r, words("u v w x y")), Fact: pick(r, words("x y z content:/ content:/a/"))}, func(w build.Want) string { return w.Path })
	default:
		j.Copies = altered(r, j.Copies, api.Out{Path: pick(r, someOuts), Body: pick(r, words("w w! 1"))}, func(o api.Out) string { return o.Path })
	}
}

// P9.2, P9.3, P9.4, P9.5: random changes of a job, one after the other. Whatever was built before, the outputs are those of a new builder.
func TestRandomBuilds(t *testing.T) {
	r := rand.New(rand.NewSource(3))
	var seen struct{ faults, kept, bodies, outs, removed, spared int }
	for range 60 {
		b, m := build.New(), &model{}
		j := build.Job{Set: slices.Clone(someTemplates)}
		for range 120 {
			next := j
			for range 1 + r.Intn(3) {
				alter(r, &next)
			}
			affected, f := build.Affected(b, next)
			if f == none && show(affected) != show(m.affected(next)) {
				t.Fatalf("affected %v, not %v\nbefore %+v\nnow %+v", affected, m.affected(next), j, next)
			}
			got, f := b.Build(next)
			want, g := m.build(next)
			if show(got) != show(want) || f != g {
				t.Fatalf("%+v %+v, not %+v %+v\nbefore %+v\nnow %+v", got, f, want, g, j, next)
			}
			checkBuilt(t, b, m)
			if f != none {
				seen.faults++
				continue // with the job as it was
			}
			same(t, "outputs", b.Outs(), built(t, next).Outs())
			seen.kept, seen.bodies, seen.outs, seen.removed = seen.kept+len(next.Wants)-len(got.Outs), seen.bodies+len(got.Bodies), seen.outs+len(got.Outs), seen.removed+len(got.Removed)
			seen.spared += len(affected) - len(got.Bodies) - len(got.Outs)
			if r.Intn(10) == 0 {
				b = b.Copy()
			}
			j = next
		}
	}
	if seen.faults < 1000 || seen.kept < 1000 || seen.bodies < 500 || seen.outs < 500 || seen.removed < 200 || seen.spared < 50 {
		t.Errorf("%+v", seen)
	}
}

// checkBuilt compares what a builder has with what the model has.
func checkBuilt(t *testing.T, b *build.Builder, m *model) {
	t.Helper()
	for _, address := range someAddresses {
		c, ok := b.Content(address)
		want, is := m.contents[address]
		if ok != is || show(c) != show(want) {
			t.Fatalf("content of %s: %+v %v, not %+v %v", address, c, ok, want, is)
		}
	}
	for _, path := range someOuts {
		l, ok := b.Reads(path)
		want, is := m.reads[path]
		if ok != is || show(l) != show(want) {
			t.Fatalf("%s has read %v %v, not %v %v", path, l, ok, want, is)
		}
	}
	if len(b.Outs()) != len(m.outs) {
		t.Fatalf("outputs %v, not %v", b.Outs(), m.outs)
	}
	for _, out := range b.Outs() {
		if body, ok := m.outs[out.Path]; !ok || body != out.Body {
			t.Fatalf("output %v, not %v %v", out, body, ok)
		}
	}
}
