package tree

import (
	"slices"
	"strings"

	"masthead/api"
)

// Aliases are the addresses that pages of a site have had, as their settings say.
func Aliases(s Site) ([]Alias, Fault) {
	v, e := look(s)
	if e != api.OK {
		return nil, Fault{E: e}
	}
	var l []Alias
	addresses, outputs := addressesOf(s), newPathSet()
	for _, o := range allOutputs(s) {
		outputs.add(o.Path)
	}
	for i, p := range s.Pages {
		for _, alias := range aliasesOf(p.Settings) {
			from := v.aliasAddress(i, alias.Text)
			if !isAddress(from) {
				return nil, Fault{Path: p.Path, E: api.ErrPath}
			}
			if addresses[from] || outputs.meets(from[1:]+indexFile) {
				return nil, Fault{Path: p.Path, E: api.ErrTwice}
			}
			addresses[from] = true
			l = append(l, Alias{From: from, To: p.Address})
		}
	}
	sortAliases(l)
	return l, Fault{}
}

// aliasAddress is the address that an alias of a page means: a path begins where those of the page's siblings do.
func (v view) aliasAddress(i int, alias string) string {
	if isAddress(alias) {
		return alias
	}
	if v.parents[i] >= 0 {
		i = v.parents[i]
	}
	return v.Pages[i].Address + alias + "/"
}

// Moved are the addresses that pages had before, and have now no more.
func Moved(before, now Site) ([]Alias, api.Errno) {
	if e := CheckSite(before); e != api.OK {
		return nil, e
	}
	v, e := look(now)
	if e != api.OK {
		return nil, e
	}
	var l []Alias
	addresses := addressesOf(now)
	for _, p := range before.Pages {
		i, ok := v.numbers[place{p.Language, p.Key}]
		if ok && !addresses[p.Address] {
			l = append(l, Alias{From: p.Address, To: now.Pages[i].Address})
		}
	}
	sortAliases(l)
	return l, api.OK
}

func addressesOf(s Site) map[string]bool {
	addresses := map[string]bool{}
	for _, p := range s.Pages {
		addresses[p.Address] = true
	}
	return addresses
}

func sortAliases(l []Alias) {
	slices.SortFunc(l, func(a, b Alias) int { return strings.Compare(a.From, b.From) })
}
