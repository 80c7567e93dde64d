package tree

import (
	"slices"
	"strings"

	"masthead/api"
	"masthead/conf"
)

// FactName is the name of the fact of a page.
func FactName(address string) string { return "page:" + address }

// Facts are the facts of all pages of a site.
func Facts(s Site) ([]api.Named, api.Errno) {
	v, e := look(s)
	if e != api.OK {
		return nil, e
	}
	children, translations := make([][]int, len(s.Pages)), map[string][]int{}
	for i, parent := range v.parents {
		if parent >= 0 {
			children[parent] = append(children[parent], i)
		}
		key := v.translations[i]
		translations[key] = append(translations[key], i)
	}
	l := make([]api.Named, len(s.Pages))
	for i, p := range s.Pages {
		others := slices.DeleteFunc(slices.Clone(translations[v.translations[i]]), func(j int) bool { return j == i })
		l[i] = api.Named{Name: FactName(p.Address), Value: v.fact(i, children[i], others)}
	}
	slices.SortFunc(l, func(a, b api.Named) int { return strings.Compare(a.Name, b.Name) })
	return l, api.OK
}

// fact is the value of the fact of a page.
func (v view) fact(i int, children, others []int) api.Value {
	p := v.Pages[i]
	var parent api.Value
	if v.parents[i] >= 0 {
		parent = v.factOf(v.parents[i])
	}
	settings, _ := conf.Get(p.Settings, "") // in memory of its own
	return api.Value{
		Kind: api.Table,
		Keys: []string{"address", "children", "files", "key", "kind", "lang", "parent", "settings", "title", "trail", "translations"},
		Items: []api.Value{
			text(p.Address), v.factsOf(children), filesOf(p), text(p.Key), text(kindName(p.Kind)), text(p.Language),
			parent, settings, text(titleOf(p)), v.factsOf(v.trail(i)), v.factsOf(others),
		},
	}
}

func text(s string) api.Value { return api.Value{Kind: api.String, Text: s} }

func (v view) factOf(i int) api.Value {
	return api.Value{Kind: api.Fact, Text: FactName(v.Pages[i].Address)}
}

func (v view) factsOf(pages []int) api.Value {
	l := api.Value{Kind: api.List}
	for _, i := range pages {
		l.Items = append(l.Items, v.factOf(i))
	}
	return l
}

// filesOf are the addresses of the files of a page.
func filesOf(p Page) api.Value {
	l := api.Value{Kind: api.List}
	for _, o := range outputsOf(p, 0)[1:] {
		l.Items = append(l.Items, text("/"+o.Path))
	}
	return l
}

func kindName(kind int) string {
	switch kind {
	case Bundle:
		return "bundle"
	case Section:
		return "section"
	}
	return "page"
}
