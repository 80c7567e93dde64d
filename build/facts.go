package build

import (
	"slices"

	"masthead/api"
	"masthead/mark"
	"masthead/page"
)

// Fact is the value of the first fact with a name; false, if there is none.
func Fact(facts []api.Named, name string) (api.Value, bool) {
	i := slices.IndexFunc(facts, func(f api.Named) bool { return f.Name == name })
	if i < 0 {
		return api.Value{}, false
	}
	return clone(facts[i].Value), true
}

// ContentFact is the content of a page as the value of a fact.
func ContentFact(c page.Content) api.Value {
	contents := listOf(c.Contents, func(entry mark.Entry) api.Value {
		return tableOf(
			field{"id", textOf(entry.Id)},
			field{"level", numberOf(entry.Level)},
			field{"text", textOf(entry.Text)},
		)
	})
	return tableOf(
		field{"contents", contents},
		field{"html", markupOf(c.HTML)},
		field{"plain", textOf(c.Plain)},
		field{"summary", markupOf(c.Summary)},
		field{"words", numberOf(c.Words)},
	)
}

// SameValue says whether two values are equal in all fields and items.
func SameValue(a, b api.Value) bool {
	// A list of what is left, and no call within a call: values can be nested however deep.
	type pair struct{ a, b []api.Value }
	left := []pair{{[]api.Value{a}, []api.Value{b}}}
	for len(left) > 0 {
		top := left[len(left)-1]
		left = left[:len(left)-1]
		if len(top.a) != len(top.b) {
			return false
		}
		for i, x := range top.a {
			y := top.b[i]
			if !sameAlone(x, y) {
				return false
			}
			if len(x.Items)+len(y.Items) > 0 {
				left = append(left, pair{x.Items, y.Items})
			}
		}
	}
	return true
}

// sameAlone says whether two values are equal but for their items.
func sameAlone(a, b api.Value) bool {
	return a.Kind == b.Kind && a.Bool == b.Bool && a.Int == b.Int && a.Text == b.Text && slices.Equal(a.Keys, b.Keys)
}

// clone is a value in memory of its own, however deep it is nested.
func clone(v api.Value) api.Value {
	for left := []*api.Value{&v}; len(left) > 0; {
		top := left[len(left)-1]
		left = left[:len(left)-1]
		top.Keys = append([]string(nil), top.Keys...)
		top.Items = append([]api.Value(nil), top.Items...)
		for i := range top.Items {
			left = append(left, &top.Items[i])
		}
	}
	return v
}
