package build

import (
	"maps"
	"slices"

	"masthead/api"
	"masthead/mark"
	"masthead/page"
)

// Builder makes the outputs of jobs. It remembers what it has made last, and what has been read for that.
type Builder struct {
	read   map[string]api.Value // what has been read, as it was: facts, and templates as Strings
	bodies map[string]written   // by address
	wants  map[string]made      // by path
	outs   map[string]string    // the bodies of all outputs, by path
}

// written is a body with its content.
type written struct {
	body    Body
	content page.Content
}

// made is a wanted output with what it has read.
type made struct {
	want  Want
	reads []string
}

// New is a builder that has built nothing.
func New() *Builder { return &Builder{} }

// Build makes the outputs of a job; what has read nothing that is another now stays as it was.
func (b *Builder) Build(j Job) (Report, Fault) {
	if fault := CheckJob(j); fault.E != api.OK {
		return Report{}, fault
	}
	r := newRound(b, j)
	if fault := r.renderBodies(); fault.E != api.OK {
		return Report{}, fault
	}
	if fault := r.renderWants(r.contents()); fault.E != api.OK {
		return Report{}, fault
	}
	r.compareOuts()
	b.take(r)
	return r.report, Fault{}
}

// take remembers what has been made, and forgets what is gone.
func (b *Builder) take(r *round) {
	b.bodies, b.wants, b.outs = r.bodies, r.wants, r.outs
	if b.read == nil {
		b.read = map[string]api.Value{}
	}
	reads := r.reads()
	for name := range b.read {
		if _, is := r.now[name]; !is || !reads[name] {
			delete(b.read, name)
		}
	}
	for name := range reads {
		if now, is := r.now[name]; is && r.of(name) {
			b.read[name] = clone(now)
		}
	}
}

// Outs are the outputs of the last build.
func (b *Builder) Outs() []api.Out {
	var l []api.Out
	for _, path := range slices.Sorted(maps.Keys(b.outs)) {
		l = append(l, api.Out{Path: path, Body: b.outs[path]})
	}
	return l
}

// Content is that of a body; false, if there is none.
func (b *Builder) Content(address string) (page.Content, bool) {
	w, ok := b.bodies[address]
	c := w.content
	c.Contents = append([]mark.Entry(nil), c.Contents...)
	c.Reads = append([]string(nil), c.Reads...)
	c.Broken = append([]string(nil), c.Broken...)
	return c, ok
}

// Reads is what a wanted output has read; false, if there is none.
func (b *Builder) Reads(path string) ([]string, bool) {
	m, ok := b.wants[path]
	return append([]string(nil), m.reads...), ok
}

// Copy is a builder like this one. What the maps lead to is never changed, so both may have it.
func (b *Builder) Copy() *Builder {
	return &Builder{
		read:   maps.Clone(b.read),
		bodies: maps.Clone(b.bodies),
		wants:  maps.Clone(b.wants),
		outs:   maps.Clone(b.outs),
	}
}
