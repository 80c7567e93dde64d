package build

import (
	"slices"

	"masthead/api"
	"masthead/tree"
)

// field is a key of a Table with its item.
type field struct {
	key  string
	item api.Value
}

// tableOf is a Table of fields, whose keys rise.
func tableOf(fields ...field) api.Value {
	v := api.Value{Kind: api.Table}
	for _, f := range fields {
		v.Keys, v.Items = append(v.Keys, f.key), append(v.Items, f.item)
	}
	return v
}

// listOf is a List of what is made of each element.
func listOf[T any](l []T, item func(T) api.Value) api.Value {
	v := api.Value{Kind: api.List}
	for _, x := range l {
		v.Items = append(v.Items, item(x))
	}
	return v
}

func textOf(s string) api.Value    { return api.Value{Kind: api.String, Text: s} }
func markupOf(s string) api.Value  { return api.Value{Kind: api.Safe, Text: s} }
func numberOf(n int) api.Value     { return api.Value{Kind: api.Int, Int: n} }
func factOf(name string) api.Value { return api.Value{Kind: api.Fact, Text: name} }

// pageFact is the Fact of the page with an address.
func pageFact(address string) api.Value { return factOf(tree.FactName(address)) }

// setting is the item of a key in settings; Nil, if it is missing or of another kind.
func setting(settings api.Value, key string, kind int) api.Value {
	i, ok := slices.BinarySearch(settings.Keys, key)
	if !ok || settings.Kind != api.Table || settings.Items[i].Kind != kind {
		return api.Value{}
	}
	return settings.Items[i]
}
