package build

import (
	"slices"

	"masthead/api"
	"masthead/page"
	"masthead/tmpl"
)

// round is what a build makes; the builder takes it if nothing goes wrong.
type round struct {
	change
	before *Builder
	job    Job
	bodies map[string]written
	wants  map[string]made
	outs   map[string]string
	report Report
}

func newRound(b *Builder, j Job) *round {
	return &round{
		change: newChange(b, j), before: b, job: j,
		bodies: map[string]written{}, wants: map[string]made{}, outs: map[string]string{},
	}
}

// renderBodies makes the contents of all bodies.
func (r *round) renderBodies() Fault {
	for _, body := range r.job.Bodies {
		w, kept := r.before.keptBody(body, r.change)
		if !kept {
			host := page.Host{Set: r.job.Set, Facts: r.job.Facts, Address: body.Address}
			content, e := page.Render(host, body.Text, body.Words)
			if e != api.OK {
				return Fault{body.Address, e}
			}
			w = written{body, content}
			r.report.Bodies = append(r.report.Bodies, body.Address)
		}
		r.bodies[body.Address] = w
	}
	return Fault{}
}

// contents are the facts of the contents. What they are now is from then on what outputs can read.
func (r *round) contents() []api.Named {
	for address := range r.before.bodies {
		r.ofContent(address, true) // it is gone, if nothing else is found below
	}
	var l []api.Named
	for _, body := range r.job.Bodies {
		now := ContentFact(r.bodies[body.Address].content)
		before, was := r.before.bodies[body.Address]
		r.ofContent(body.Address, !was || !SameValue(ContentFact(before.content), now))
		l = append(l, api.Named{Name: contentPrefix + body.Address, Value: now})
	}
	return l
}

// renderWants makes the wanted outputs, and then the copies.
func (r *round) renderWants(contents []api.Named) Fault {
	run := runner{set: r.job.Set, facts: slices.Concat(r.job.Facts, contents), calls: map[string][]string{}}
	for _, want := range r.job.Wants {
		m, kept := r.before.keptWant(want, r.change)
		out := r.before.outs[want.Path]
		if !kept {
			result, e := run.template(want.Template, factOf(want.Fact))
			if e != api.OK {
				return Fault{want.Path, e}
			}
			m, out = made{want, result.Reads}, tmpl.String(result.Pieces)
			r.report.Outs = append(r.report.Outs, want.Path)
		}
		r.wants[want.Path], r.outs[want.Path] = m, out
	}
	for _, copied := range r.job.Copies {
		r.outs[copied.Path] = copied.Body
	}
	return Fault{}
}

// compareOuts reports which outputs are gone, and which are new or others.
func (r *round) compareOuts() {
	for path := range r.before.outs {
		if _, is := r.outs[path]; !is {
			r.report.Removed = append(r.report.Removed, path)
		}
	}
	slices.Sort(r.report.Removed)
	r.report.Changed = slices.Clone(r.report.Removed)
	for path, now := range r.outs {
		if before, was := r.before.outs[path]; !was || before != now {
			r.report.Changed = append(r.report.Changed, path)
		}
	}
	slices.Sort(r.report.Changed)
}

// reads are the names of all that has been read.
func (r *round) reads() map[string]bool {
	names := map[string]bool{}
	for _, w := range r.bodies {
		for _, name := range w.content.Reads {
			names[name] = true
		}
	}
	for _, m := range r.wants {
		for _, name := range m.reads {
			names[name] = true
		}
	}
	return names
}

// runner runs templates of a set without faults. Each run gets no more of the set than it can come to, since that is read anew each time.
type runner struct {
	set   []tmpl.Source
	facts []api.Named
	calls map[string][]string // what templates call, as far as they have been looked at
}

func (r runner) template(name string, dot api.Value) (tmpl.Result, api.Errno) {
	found := map[string]bool{}
	r.find(name, found)
	var part []tmpl.Source
	for _, source := range r.set {
		if found[source.Name] {
			part = append(part, source)
		}
	}
	return tmpl.Run(part, name, dot, r.facts)
}

// find finds a template and all that it calls, they call, and so on.
func (r runner) find(name string, found map[string]bool) {
	if found[name] {
		return
	}
	found[name] = true
	calls, ok := r.calls[name]
	if !ok {
		i := slices.IndexFunc(r.set, func(s tmpl.Source) bool { return s.Name == name })
		calls, _ = tmpl.Calls(r.set[i].Text)
		r.calls[name] = calls
	}
	for _, call := range calls {
		r.find(call, found)
	}
}
