package build

import (
	"masthead/api"
	"masthead/list"
	"masthead/tree"
)

// TermOutputs are the outputs of the terms of a kind, and their facts.
func TermOutputs(s tree.Site, kind string) ([]api.Named, []Want, api.Errno) {
	if e := tree.CheckSite(s); e != api.OK {
		return nil, nil, e
	}
	if !isKey(kind) {
		return nil, nil, api.ErrName
	}
	var settings []api.Value
	var names []string
	language := s.Languages[0]
	for _, p := range s.Pages {
		if p.Language == language {
			settings, names = append(settings, p.Settings), append(names, tree.FactName(p.Address))
		}
	}
	terms, e := list.Terms(settings, kind)
	if e != api.OK {
		return nil, nil, e
	}
	base := "/" + kind + "/"
	facts, e := list.TermFacts(kind, base, terms, names)
	if e != api.OK {
		return nil, nil, e
	}
	o := outputs{facts: facts}
	for _, term := range terms {
		address, _ := list.TermAddress(base, term.Name)
		o.add(address, "term", termOutput("term", address, language, field{"term", factOf("term:" + address)}))
	}
	o.add(base, "terms", termOutput("terms", base, language, field{"terms", factOf("terms:" + kind)}))
	o.sort()
	return o.facts, o.wants, api.OK
}

// termOutput is the value of the fact of an output of a term, or of all terms of a kind.
func termOutput(kind, address, language string, what field) api.Value {
	return tableOf(field{"address", textOf(address)}, field{"kind", textOf(kind)}, field{"lang", textOf(language)}, what)
}
