package tmpl

import (
	"cmp"
	"slices"

	"masthead/api"
)

func listed(args []api.Value) api.Value { return listOf(args) }

func first(args []api.Value) api.Value {
	items := args[0].Items
	return listOf(items[:atMost(args[1].Int, items)])
}

func last(args []api.Value) api.Value {
	items := args[0].Items
	return listOf(items[len(items)-atMost(args[1].Int, items):])
}

// atMost is a number, or how many items there are, if that is less.
func atMost(n int, items []api.Value) int {
	demand(n >= 0, api.ErrRange)
	return min(n, len(items))
}

func reverse(args []api.Value) api.Value {
	items := slices.Clone(args[0].Items)
	slices.Reverse(items)
	return listOf(items)
}

// keyed is an item with what it is sorted by.
type keyed struct{ by, item api.Value }

// byKey is the items of a list, each with its value of a key, or with itself, if the key is empty.
func byKey(list api.Value, key string) []keyed {
	l := make([]keyed, 0, len(list.Items))
	for _, item := range list.Items {
		by := item
		if key != "" {
			by = valueOf(item, key)
		}
		demand(by.Kind != api.Fact, api.ErrKind)
		l = append(l, keyed{by, item})
	}
	return l
}

// valueOf is the value of a key of an item that must be a table.
func valueOf(item api.Value, key string) api.Value {
	demand(item.Kind == api.Table, api.ErrKind)
	return itemOf(item, key)
}

// sorted has what has no value first, since Nil is the only one that is not compared with the others.
func sorted(args []api.Value) api.Value {
	l := byKey(args[0], args[1].Text)
	var without, with []int // positions, which are moved more easily than values
	for i, x := range l {
		if x.by.Kind == api.Nil {
			without = append(without, i)
		} else {
			with = append(with, i)
		}
	}
	for _, i := range with {
		_, e := Compare(l[with[0]].by, l[i].by)
		demand(e == api.OK || i == with[0], e) // each two can be compared if the first one can be with each other one
	}
	slices.SortFunc(with, func(i, j int) int {
		order, _ := Compare(l[i].by, l[j].by)
		return cmp.Or(order, i-j)
	})
	items := make([]api.Value, 0, len(l))
	for _, i := range append(without, with...) {
		items = append(items, l[i].item)
	}
	return listOf(items)
}

func where(args []api.Value) api.Value {
	var chosen []api.Value
	for _, item := range args[0].Items {
		by := valueOf(item, args[1].Text)
		demand(by.Kind != api.Fact, api.ErrKind)
		if equal(by, args[2]) {
			chosen = append(chosen, item)
		}
	}
	return listOf(chosen)
}

func has(args []api.Value) api.Value {
	found := false
	for _, item := range args[0].Items {
		demand(item.Kind != api.Fact, api.ErrKind)
		found = found || equal(item, args[1])
	}
	return truth(found)
}

func keys(args []api.Value) api.Value {
	var names []api.Value
	for _, key := range args[0].Keys {
		names = append(names, text(key))
	}
	return listOf(names)
}
