package tmpl

import (
	"cmp"
	"slices"
	"strconv"
	"strings"

	"masthead/api"
	"masthead/conf"
)

func truth(b bool) api.Value { return api.Value{Kind: api.Bool, Bool: b} }

func number(n int) api.Value { return api.Value{Kind: api.Int, Int: n} }

func text(s string) api.Value { return api.Value{Kind: api.String, Text: s} }

func listOf(items []api.Value) api.Value { return api.Value{Kind: api.List, Items: items} }

// isText says whether a value is a String or a Safe.
func isText(v api.Value) bool { return v.Kind == api.String || v.Kind == api.Safe }

// Show is a value as a string.
func Show(v api.Value) (string, api.Errno) {
	switch v.Kind {
	case api.Nil:
		return "", api.OK
	case api.Bool:
		return strconv.FormatBool(v.Bool), api.OK
	case api.Int:
		return strconv.Itoa(v.Int), api.OK
	case api.String, api.Safe:
		return v.Text, api.OK
	case api.Day:
		return conf.DayString(v.Int)
	}
	return "", api.ErrKind
}

// Truth says whether a value counts as true.
func Truth(v api.Value) bool {
	switch v.Kind {
	case api.Nil:
		return false
	case api.Bool:
		return v.Bool
	case api.Int:
		return v.Int != 0
	case api.String, api.Safe:
		return v.Text != ""
	case api.List, api.Table:
		return len(v.Items) > 0
	}
	return true
}

// Compare orders two values of one sort.
func Compare(a, b api.Value) (int, api.Errno) {
	switch {
	case isText(a) && isText(b):
		return strings.Compare(a.Text, b.Text), api.OK
	case a.Kind != b.Kind:
		return 0, api.ErrKind
	}
	switch a.Kind {
	case api.Nil:
		return 0, api.OK
	case api.Bool:
		return conf.Compare(truth(a.Bool), truth(b.Bool)), api.OK
	case api.Int, api.Day:
		return cmp.Compare(a.Int, b.Int), api.OK
	}
	return 0, api.ErrKind
}

// equal says whether two values can be compared, and are the same.
func equal(a, b api.Value) bool {
	order, e := Compare(a, b)
	return e == api.OK && order == 0
}

// itemOf is the item of a key of a table, or Nil.
func itemOf(table api.Value, key string) api.Value {
	return itemAt(table.Items, slices.Index(table.Keys, key))
}

// itemAt is the item with a number, or Nil.
func itemAt(items []api.Value, n int) api.Value {
	if n < 0 || n >= len(items) {
		return api.Value{}
	}
	return items[n]
}

// clone is a value in memory of its own. It calls nothing for what is nested, since that can be deeper than calls can be.
func clone(v api.Value) api.Value {
	for left := []*api.Value{&v}; len(left) > 0; {
		top := left[len(left)-1]
		left = left[:len(left)-1]
		top.Keys = append([]string(nil), top.Keys...)
		top.Items = append([]api.Value(nil), top.Items...)
		for i := range top.Items {
			left = append(left, &top.Items[i])
		}
	}
	return v
}

// hasMore says whether a value has more than so many items, at all depths.
func hasMore(v api.Value, most int) bool {
	n := 0
	for left := [][]api.Value{v.Items}; len(left) > 0; {
		items := left[len(left)-1]
		left = left[:len(left)-1]
		if len(items) > most-n {
			return true
		}
		n += len(items)
		for _, item := range items {
			if len(item.Items) > 0 {
				left = append(left, item.Items)
			}
		}
	}
	return false
}
