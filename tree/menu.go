package tree

import (
	"cmp"
	"slices"
	"strings"

	"masthead/api"
)

// Menu is the menu with a name in a language: the items of pages, and extra ones.
func Menu(s Site, language, name string, extra []Item) ([]Entry, api.Errno) {
	if e := CheckSite(s); e != api.OK {
		return nil, e
	}
	if !slices.Contains(s.Languages, language) {
		return nil, api.ErrName
	}
	if len(extra) > MaxItems || slices.ContainsFunc(extra, isLarge) {
		return nil, api.ErrLarge
	}
	items := append(itemsOf(s, language, name), extra...)
	if e := checkItems(items); e != api.OK {
		return nil, e
	}
	below := map[string][]Item{}
	for _, item := range items {
		below[item.Parent] = append(below[item.Parent], item)
	}
	menu, many := entries(below, "")
	if many < len(items) {
		return nil, api.ErrLoop // what is below itself is not below the top
	}
	return menu, api.OK
}

func isLarge(item Item) bool {
	return max(len(item.Id), len(item.Parent), len(item.Title), len(item.Address)) > MaxRef
}

// itemsOf are the items of a menu that pages have.
func itemsOf(s Site, language, name string) []Item {
	var l []Item
	for _, p := range s.Pages {
		menus, _ := setting(p.Settings, "menus", api.Table)
		own, ok := setting(menus, name, api.Table)
		if !ok || p.Language != language {
			continue
		}
		item := Item{Id: p.Key, Title: titleOf(p), Address: p.Address}
		if title, ok := setting(own, "title", api.String); ok {
			item.Title = title.Text
		}
		parent, _ := setting(own, "parent", api.String)
		weight, _ := setting(own, "weight", api.Int)
		item.Parent, item.Weight = parent.Text, weight.Int
		l = append(l, item)
	}
	return l
}

// checkItems checks that each Id is there once, and each Parent is an Id.
func checkItems(items []Item) api.Errno {
	ids := map[string]bool{}
	for _, item := range items {
		if ids[item.Id] {
			return api.ErrTwice
		}
		ids[item.Id] = true
	}
	for _, item := range items {
		if item.Parent != "" && !ids[item.Parent] {
			return api.ErrNone
		}
	}
	return api.OK
}

// entries are the items below one, or at the top, and how many they are with those below them.
func entries(below map[string][]Item, parent string) (l []Entry, many int) {
	items := below[parent]
	slices.SortFunc(items, func(a, b Item) int {
		return cmp.Or(cmp.Compare(a.Weight, b.Weight), strings.Compare(a.Title, b.Title), strings.Compare(a.Id, b.Id))
	})
	for _, item := range items {
		entry, inner := Entry{Id: item.Id, Title: item.Title, Address: item.Address}, 0
		if item.Id != "" {
			entry.Items, inner = entries(below, item.Id)
		}
		l, many = append(l, entry), many+inner+1
	}
	return l, many
}
