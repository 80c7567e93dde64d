package build

import (
	"slices"

	"masthead/api"
)

// change knows what is another now than in the last build.
type change struct {
	then, now map[string]api.Value // what was read, and what can be: facts, and templates as Strings
	known     map[string]bool      // the names that have been looked at: is it another?
}

func newChange(b *Builder, j Job) change {
	c := change{then: b.read, now: map[string]api.Value{}, known: map[string]bool{}}
	for _, f := range j.Facts {
		c.now[f.Name] = f.Value
	}
	for _, source := range j.Set {
		c.now[templatePrefix+source.Name] = textOf(source.Text)
	}
	return c
}

// of says whether what a name stands for is another.
func (c change) of(name string) bool {
	changed, ok := c.known[name]
	if !ok {
		then, was := c.then[name]
		now, is := c.now[name]
		changed = was != is || !SameValue(then, now)
		c.known[name] = changed
	}
	return changed
}

// ofContent notes whether the content of a body is another. Before that it is not: bodies read no contents.
func (c change) ofContent(address string, changed bool) {
	c.known[contentPrefix+address] = changed
}

// keptBody is a body as it was, if it is the same and has read nothing that changed.
func (b *Builder) keptBody(body Body, c change) (written, bool) {
	w, ok := b.bodies[body.Address]
	if !ok || w.body != body || slices.ContainsFunc(w.content.Reads, c.of) {
		return written{}, false
	}
	return w, true
}

// keptWant is a wanted output as it was, in the same way.
func (b *Builder) keptWant(want Want, c change) (made, bool) {
	m, ok := b.wants[want.Path]
	if !ok || m.want != want || slices.ContainsFunc(m.reads, c.of) {
		return made{}, false
	}
	return m, true
}

// Affected are the addresses of the bodies, then the paths of the outputs that a build would render.
func Affected(b *Builder, j Job) ([]string, Fault) {
	if fault := CheckJob(j); fault.E != api.OK {
		return nil, fault
	}
	c := newChange(b, j)
	kept := map[string]bool{}
	var l []string
	for _, body := range j.Bodies {
		_, kept[body.Address] = b.keptBody(body, c)
		if !kept[body.Address] {
			l = append(l, body.Address)
		}
	}
	for address := range b.bodies {
		c.ofContent(address, !kept[address])
	}
	for _, address := range l {
		c.ofContent(address, true)
	}
	for _, want := range j.Wants {
		if _, ok := b.keptWant(want, c); !ok {
			l = append(l, want.Path)
		}
	}
	return l, Fault{}
}
