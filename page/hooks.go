package page

import (
	"slices"

	"masthead/api"
	"masthead/mark"
	"masthead/tmpl"
)

// templatePrefix is how the name begins under which a template is read.
const templatePrefix = "template:"

// hook writes a node in its own way, with its id and with its Kids as HTML.
type hook func(n mark.Node, id, inner string)

// hookName is the name of the template that can write nodes of a Kind.
func hookName(kind int) string {
	switch kind {
	case mark.Link:
		return "hook/link"
	case mark.Image:
		return "hook/image"
	case mark.Heading:
		return "hook/heading"
	case mark.Fence:
		return "hook/code"
	}
	return ""
}

// setHooks makes the hooks for which the set has templates.
func (w *writer) setHooks() {
	w.hooks = map[int]hook{}
	for _, kind := range []int{mark.Link, mark.Image, mark.Heading, mark.Fence} {
		name := hookName(kind)
		if find(w.host.Set, name) < 0 {
			continue
		}
		w.hooks[kind] = func(n mark.Node, id, inner string) {
			w.template(name, Fields(n, w.host.Address, id, inner))
			if kind == mark.Heading || kind == mark.Fence {
				w.add("\n")
			}
		}
	}
}

// find is the number of the template with a name, or -1.
func find(set []tmpl.Source, name string) int {
	return slices.IndexFunc(set, func(s tmpl.Source) bool { return s.Name == name })
}

// runner runs templates of a host. The whole set is read for the first run alone: each one gets no more of it than it can come to.
func runner(h Host) func(name string, dot api.Value) (tmpl.Result, api.Errno) {
	sets := map[string][]tmpl.Source{} // by the template that is run
	return func(name string, dot api.Value) (tmpl.Result, api.Errno) {
		if len(sets) == 0 && tmpl.Check(h.Set).E != api.OK {
			return tmpl.Result{}, api.ErrSyntax
		}
		if sets[name] == nil {
			sets[name] = needed(h.Set, name)
		}
		return tmpl.Run(sets[name], name, dot, h.Facts)
	}
}

// needed is the part of a set without faults to which a run of one of its templates can come.
func needed(set []tmpl.Source, name string) []tmpl.Source {
	isNeeded := map[string]bool{name: true}
	for left := []string{name}; len(left) > 0; {
		calls, _ := tmpl.Calls(set[find(set, left[0])].Text)
		left = left[1:]
		for _, call := range calls {
			if !isNeeded[call] {
				isNeeded[call] = true
				left = append(left, call)
			}
		}
	}
	return slices.DeleteFunc(slices.Clone(set), func(s tmpl.Source) bool { return !isNeeded[s.Name] })
}
