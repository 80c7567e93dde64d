package list

import (
	"slices"
	"strconv"
	"strings"

	"masthead/api"
	"masthead/conf"
)

// CheckItem says whether a value can be an item of a list.
func CheckItem(v api.Value) api.Errno {
	return checkNested(v, itemsOf, MaxInner, conf.MaxDepth+2, checkFields)
}

func itemsOf(v api.Value) []api.Value { return v.Items }

// checkFields checks a value of an item, but not its Items.
func checkFields(v api.Value) api.Errno {
	if v.Kind == api.Safe || v.Kind == api.Fact {
		v.Kind = api.String
	}
	keys, fit := v.Keys, listsFit(v)
	v.Keys, v.Items = nil, nil
	if !fit {
		v.Keys = make([]string, 1) // Keys without Items are of no Kind
	}
	if e := conf.Check(v); e != api.OK {
		return e
	}
	return checkKeys(keys)
}

// listsFit says whether Keys and Items are as the Kind of a value uses them.
func listsFit(v api.Value) bool {
	switch v.Kind {
	case api.List:
		return len(v.Keys) == 0
	case api.Table:
		return len(v.Keys) == len(v.Items)
	}
	return len(v.Keys) == 0 && len(v.Items) == 0
}

func checkKeys(keys []string) api.Errno {
	for i, key := range keys {
		if !isKey(key) {
			return api.ErrName
		}
		if i > 0 && key <= keys[i-1] {
			return api.ErrOrder
		}
	}
	return api.OK
}

// isKey says whether a table can have a key.
func isKey(s string) bool {
	return conf.Check(api.Value{Kind: api.Table, Keys: []string{s}, Items: make([]api.Value, 1)}) == api.OK
}

// checkItems checks a list of values.
func checkItems(l []api.Value) api.Errno {
	if len(l) > MaxList {
		return api.ErrLarge
	}
	for _, v := range l {
		if e := CheckItem(v); e != api.OK {
			return e
		}
	}
	return api.OK
}

// isRoute says whether a string is a route; it may be empty.
func isRoute(s string) bool {
	_, e := conf.Get(api.Value{}, s)
	return e != api.ErrPath
}

// has is what a value has at a route.
func has(v api.Value, route string) api.Value {
	if route == "" {
		return v
	}
	for _, part := range strings.Split(route, ".") {
		i := find(v, part)
		if i < 0 {
			return api.Value{}
		}
		v = v.Items[i]
	}
	return v
}

// find is the index of the item to which a part of a route leads, or -1.
func find(v api.Value, part string) int {
	switch v.Kind {
	case api.Table:
		if i, ok := slices.BinarySearch(v.Keys, part); ok {
			return i
		}
	case api.List:
		if i, err := strconv.Atoi(part); err == nil && i < len(v.Items) {
			return i
		}
	}
	return -1
}

// clone is a value in memory of its own.
func clone(v api.Value) api.Value {
	v.Keys, v.Items = slices.Clone(v.Keys), slices.Clone(v.Items)
	for i, item := range v.Items {
		v.Items[i] = clone(item)
	}
	return v
}
