package tmpl

import (
	"slices"

	"masthead/api"
)

// Contexts are those of what a template inserts, in order.
func Contexts(text string) ([]int, api.Errno) {
	t, _, e := readTemplate(text, allFunctions())
	if e != api.OK {
		return nil, e
	}
	if t.addContexts() >= 0 {
		return nil, api.ErrContext
	}
	var contexts []int
	for _, x := range partsOf(t.parts, Insert) {
		contexts = append(contexts, x.context)
	}
	return contexts, api.OK
}

// Calls are the names of the templates that a template calls, rising.
func Calls(text string) ([]string, api.Errno) {
	t, _, e := readTemplate(text, allFunctions())
	if e != api.OK {
		return nil, e
	}
	var names []string
	for _, x := range partsOf(t.parts, Call) {
		names = append(names, x.Name)
	}
	slices.Sort(names)
	return slices.Compact(names), api.OK
}

// Check is the first fault of a set of templates.
func Check(set []Source) Fault {
	_, fault := readSet(set, allFunctions())
	return fault
}

// readSet reads templates, by their names.
func readSet(set []Source, known functions) (map[string]*template, Fault) {
	if len(set) > MaxTemplates {
		return nil, Fault{E: api.ErrLarge}
	}
	templates := map[string]*template{}
	for i, source := range set {
		fault := Fault{Name: source.Name}
		if !isTemplateName(source.Name) {
			fault.E = api.ErrName
		} else if i > 0 && source.Name <= set[i-1].Name {
			fault.E = api.ErrOrder
		} else {
			templates[source.Name], fault.At, fault.E = readChecked(source.Text, known)
		}
		if fault.E != api.OK {
			return nil, fault
		}
	}
	for _, source := range set {
		t := templates[source.Name]
		for _, x := range partsOf(t.parts, Call) {
			if templates[x.Name] == nil {
				return nil, Fault{source.Name, t.original(x.at), api.ErrNone}
			}
		}
	}
	return templates, Fault{}
}

// readChecked reads a template with its contexts. With an error it returns where that is.
func readChecked(text string, known functions) (*template, int, api.Errno) {
	t, at, e := readTemplate(text, known)
	if e != api.OK {
		return nil, at, e
	}
	if at := t.addContexts(); at >= 0 {
		return nil, at, api.ErrContext
	}
	return t, 0, api.OK
}
