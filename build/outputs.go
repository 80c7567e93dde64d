package build

import (
	"cmp"
	"slices"
	"strings"

	"masthead/api"
	"masthead/list"
	"masthead/tree"
)

const layoutFolder = "layout/"

// outputs are wanted ones, with the facts that they begin with.
type outputs struct {
	facts []api.Named
	wants []Want
}

// add adds an output with an address, and its fact.
func (o *outputs) add(address, template string, value api.Value) {
	fact := "out:" + address
	o.facts = append(o.facts, api.Named{Name: fact, Value: value})
	o.wants = append(o.wants, Want{Path: pathOf(address), Template: layoutFolder + template, Fact: fact})
}

func (o *outputs) sort() {
	slices.SortFunc(o.facts, func(a, b api.Named) int { return strings.Compare(a.Name, b.Name) })
	slices.SortFunc(o.wants, func(a, b Want) int { return strings.Compare(a.Path, b.Path) })
}

// PageOutputs are the outputs of the pages of a site, and their facts; sections are divided into parts of a size.
func PageOutputs(s tree.Site, size int) ([]api.Named, []Want, api.Errno) {
	if e := tree.CheckSite(s); e != api.OK {
		return nil, nil, e
	}
	if size < 0 || size > MaxPage {
		return nil, nil, api.ErrRange
	}
	var parted []parts
	many := 0
	for i, children := range childrenOf(s) {
		p := partsOf(s.Pages[i], children, size)
		parted, many = append(parted, p), many+len(p.bounds)
	}
	if many > MaxWants {
		return nil, nil, api.ErrLarge
	}
	var o outputs
	for _, p := range parted {
		if e := p.addTo(&o); e != api.OK {
			return nil, nil, e
		}
	}
	o.sort()
	if e := checkOutputs(o.wants); e != api.OK {
		return nil, nil, e
	}
	return o.facts, o.wants, api.OK
}

// place is where a page is.
type place struct{ language, key string }

// childrenOf are the children of each page of a site without an error, in the order in which lists show them.
func childrenOf(s tree.Site) [][]tree.Page {
	numbers := map[place]int{}
	for i, p := range s.Pages {
		numbers[place{p.Language, p.Key}] = i
	}
	children := make([][]tree.Page, len(s.Pages))
	for _, p := range s.Pages {
		if p.Key != "" {
			parent := numbers[place{p.Language, p.Key[:max(0, strings.LastIndexByte(p.Key, '/'))]}]
			children[parent] = append(children[parent], p)
		}
	}
	for _, l := range children {
		slices.SortFunc(l, comparePages)
	}
	return children
}

// comparePages orders pages by weight, then by date, the latest first, then by address.
func comparePages(a, b tree.Page) int {
	return cmp.Or(cmp.Compare(weightOf(a), weightOf(b)), cmp.Compare(dateOf(b), dateOf(a)), strings.Compare(a.Address, b.Address))
}

func weightOf(p tree.Page) int { return setting(p.Settings, "weight", api.Int).Int }

// dateOf is the day of a page; before all days, if it has none.
func dateOf(p tree.Page) int {
	date := setting(p.Settings, "date", api.Day)
	if date.Kind != api.Day {
		return -1
	}
	return date.Int
}

// parts are those of a page.
type parts struct {
	page     tree.Page
	children []tree.Page
	bounds   []list.Part
}

// partsOf divides a Section, if there is a size; any other page is one part.
func partsOf(p tree.Page, children []tree.Page, size int) parts {
	bounds := []list.Part{{Number: 1, To: len(children)}}
	if p.Kind == tree.Section && size > 0 {
		bounds, _ = list.Pager(len(children), size)
	}
	return parts{p, children, bounds}
}

// addTo adds the outputs of all parts.
func (p parts) addTo(o *outputs) api.Errno {
	for _, part := range p.bounds {
		address, e := list.PartAddress(p.page.Address, part.Number)
		if e != api.OK {
			return e
		}
		o.add(address, p.layout(), p.fact(address, part))
	}
	return api.OK
}

// layout is the name of the template of a page, as its settings or else its Kind say.
func (p parts) layout() string {
	if layout := setting(p.page.Settings, "layout", api.String); layout.Kind == api.String {
		return layout.Text
	}
	switch p.page.Kind {
	case tree.Bundle:
		return "bundle"
	case tree.Section:
		return "section"
	}
	return "page"
}

// fact is the value of the fact of a part.
func (p parts) fact(address string, part list.Part) api.Value {
	items := listOf(p.children[part.From:part.To], func(child tree.Page) api.Value { return pageFact(child.Address) })
	return tableOf(
		field{"address", textOf(address)},
		field{"after", p.neighbour(part.Number + 1)},
		field{"before", p.neighbour(part.Number - 1)},
		field{"content", factOf(contentPrefix + p.page.Address)},
		field{"items", items},
		field{"kind", textOf("page")},
		field{"lang", textOf(p.page.Language)},
		field{"many", numberOf(len(p.bounds))},
		field{"number", numberOf(part.Number)},
		field{"page", pageFact(p.page.Address)},
	)
}

// neighbour is the address of the part with a number; Nil, if there is none.
func (p parts) neighbour(number int) api.Value {
	if number < 1 || number > len(p.bounds) {
		return api.Value{}
	}
	address, _ := list.PartAddress(p.page.Address, number)
	return textOf(address)
}

// checkOutputs looks for a path that is none, then for paths that cannot be side by side. The outputs are rising.
func checkOutputs(wants []Want) api.Errno {
	for _, want := range wants {
		if tree.CheckPath(want.Path) != api.OK {
			return api.ErrPath
		}
	}
	paths := newPathSet(wantPaths(wants))
	for _, want := range wants {
		if paths.hasNested(want.Path) {
			return api.ErrTwice
		}
	}
	if len(paths.files) < len(wants) {
		return api.ErrTwice
	}
	return api.OK
}
