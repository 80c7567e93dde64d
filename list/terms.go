package list

import (
	"maps"
	"slices"
	"strings"

	"masthead/api"
	"masthead/conf"
	"masthead/tree"
)

// Terms are the terms that the strings at a route name.
func Terms(l []api.Value, route string) ([]Term, api.Errno) {
	c, e := columnOf(l, route)
	if e != api.OK {
		return nil, e
	}
	return c.terms()
}

func (c column) terms() ([]Term, api.Errno) {
	found := map[string]Term{}
	for i, v := range c {
		named, ok := stringsOf(v)
		if !ok {
			return nil, api.ErrKind
		}
		for _, title := range named {
			name := tree.Slug(title)
			if name == "" {
				return nil, api.ErrName
			}
			t, ok := found[name]
			if !ok {
				t = Term{Name: name, Title: title}
			}
			if n := len(t.Items); n == 0 || t.Items[n-1] != i {
				t.Items = append(t.Items, i)
			}
			found[name] = t
		}
	}
	var terms []Term
	for _, name := range slices.Sorted(maps.Keys(found)) {
		terms = append(terms, found[name])
	}
	return terms, api.OK
}

// stringsOf are those that a value names; it is not ok if it can name none.
func stringsOf(v api.Value) (named []string, ok bool) {
	switch v.Kind {
	case api.Nil:
		return nil, true
	case api.String:
		return []string{v.Text}, true
	case api.List:
		for _, item := range v.Items {
			if item.Kind != api.String {
				return nil, false
			}
			named = append(named, item.Text)
		}
		return named, true
	}
	return nil, false
}

// TermAddress is the address of a term.
func TermAddress(base, name string) (string, api.Errno) {
	if tree.CheckAddress(base) != api.OK || tree.CheckPath(name) != api.OK || strings.Contains(name, "/") {
		return "", api.ErrPath
	}
	return checkedAddress(base + name + "/")
}

// checkedAddress is an address that has been made, if it is one.
func checkedAddress(s string) (string, api.Errno) {
	if e := tree.CheckAddress(s); e != api.OK {
		return "", e
	}
	return s, api.OK
}

// Cloud is a step for each term: the more items it has, the greater.
func Cloud(terms []Term, steps int) ([]int, api.Errno) {
	if len(terms) > MaxList {
		return nil, api.ErrLarge
	}
	if steps < 1 || steps > 100 {
		return nil, api.ErrRange
	}
	if len(terms) == 0 {
		return nil, api.OK
	}
	var sizes []int
	for _, t := range terms {
		sizes = append(sizes, len(t.Items))
	}
	least, greatest := slices.Min(sizes), slices.Max(sizes)
	for i, n := range sizes {
		sizes[i] = (n - least) * steps / (greatest - least + 1)
	}
	return sizes, api.OK
}

// TermFacts are the facts of the terms of a kind, and that of the kind.
func TermFacts(kind, base string, terms []Term, names []string) ([]api.Named, api.Errno) {
	if e := checkTerms(kind, base, terms, names); e != api.OK {
		return nil, e
	}
	var l []api.Named
	for _, t := range terms {
		address, _ := TermAddress(base, t.Name)
		l = append(l, api.Named{Name: "term:" + address, Value: t.fact(kind, address, names)})
	}
	slices.SortFunc(l, func(a, b api.Named) int { return strings.Compare(a.Name, b.Name) })
	all := api.Value{Kind: api.List}
	for _, fact := range l {
		all.Items = append(all.Items, factOf(fact.Name))
	}
	return append(l, api.Named{Name: "terms:" + kind, Value: all}), api.OK
}

// fact is the value of the fact of a term.
func (t Term) fact(kind, address string, names []string) api.Value {
	items := api.Value{Kind: api.List}
	for _, i := range t.Items {
		items.Items = append(items.Items, factOf(names[i]))
	}
	count := api.Value{Kind: api.Int, Int: len(t.Items)}
	return api.Value{
		Kind:  api.Table,
		Keys:  []string{"address", "count", "items", "kind", "name", "title"},
		Items: []api.Value{textOf(address), count, items, textOf(kind), textOf(t.Name), textOf(t.Title)},
	}
}

func textOf(s string) api.Value { return api.Value{Kind: api.String, Text: s} }

func factOf(name string) api.Value { return api.Value{Kind: api.Fact, Text: name} }

func checkTerms(kind, base string, terms []Term, names []string) api.Errno {
	if !isKey(kind) {
		return api.ErrName
	}
	if e := tree.CheckAddress(base); e != api.OK {
		return e
	}
	if len(terms) > MaxList || len(names) > MaxList {
		return api.ErrLarge
	}
	for i, t := range terms {
		if _, e := TermAddress(base, t.Name); e != api.OK {
			return e
		}
		if i > 0 && t.Name <= terms[i-1].Name {
			return api.ErrOrder
		}
		if e := conf.Check(textOf(t.Title)); e != api.OK {
			return e
		}
		if e := checkPositions(t.Items, len(names)); e != api.OK {
			return e
		}
	}
	return api.OK
}

// checkPositions checks whether positions rise, in a list of a length.
func checkPositions(l []int, length int) api.Errno {
	for i, position := range l {
		if position < 0 || position >= length {
			return api.ErrRange
		}
		if i > 0 && position <= l[i-1] {
			return api.ErrOrder
		}
	}
	return api.OK
}
