package list_test

import (
	"math"
	"math/rand"
	"slices"
	"testing"

	"masthead/api"
	"masthead/list"
)

// P4.14: scores of terms that two items have.
func TestRelated(t *testing.T) {
	l := items(t, `tags ["a" "b"]`, `tags "B"`, `tags ["a" "c" "a"]; kind "x"`, `kind "X!"`, `tags ["a" "b"]; kind "x"`, "")
	tags, kind := list.Weight{Route: "tags", By: 1}, list.Weight{Route: "kind", By: 10}
	for name, c := range map[string]struct {
		weights    []list.Weight
		item, most int
		want       []list.Score
	}{
		"two terms":        {[]list.Weight{tags}, 0, 9, []list.Score{{4, 333 + 333}, {1, 333}, {2, 333}}},
		"at most two":      {[]list.Weight{tags}, 0, 2, []list.Score{{4, 666}, {1, 333}}},
		"none at most":     {[]list.Weight{tags}, 0, 0, []list.Score{}},
		"a number":         {[]list.Weight{{Route: "tags", By: 2}}, 1, 9, []list.Score{{0, 666}, {4, 666}}},
		"two weights":      {[]list.Weight{tags, kind}, 2, list.MaxList, []list.Score{{4, 3666}, {3, 3333}, {0, 333}}},
		"a weight twice":   {[]list.Weight{kind, kind}, 3, 9, []list.Score{{2, 6666}, {4, 6666}}},
		"the greatest":     {[]list.Weight{{Route: "kind", By: list.MaxWeight}}, 3, 9, []list.Score{{2, 333_333}, {4, 333_333}}},
		"no weights":       {nil, 0, 9, []list.Score{}},
		"no terms":         {[]list.Weight{tags, kind}, 5, 9, []list.Score{}},
		"nothing there":    {[]list.Weight{{Route: "x.0", By: 1}}, 0, 9, []list.Score{}},
		"as many weights":  {slices.Repeat([]list.Weight{tags}, list.MaxWeights), 1, 9, []list.Score{{0, 333 * list.MaxWeights}, {4, 333 * list.MaxWeights}}},
		"rounded for each": {[]list.Weight{tags, tags, tags}, 1, 1, []list.Score{{0, 999}}},
	} {
		got, e := list.Related(l, c.weights, c.item, c.most)
		expect(t, name, got, e, c.want, api.OK)
	}
	full := many(list.MaxList, str("a"))
	got, e := list.Related(full, []list.Weight{{By: 1}}, 7, 9)
	expect(t, "scores of 0", got, e, []list.Score{}, api.OK)
	got, e = list.Related(full, []list.Weight{{By: 2}}, 0, 2)
	expect(t, "scores of 1", got, e, []list.Score{{1, 1}, {2, 1}}, api.OK)
}

// P4.14: the example of the chapter.
func TestRelatedExample(t *testing.T) {
	got, e := list.Related(items(t, `tags ["a" "b"]`, `tags ["b"]`, `tags ["a" "c"]`), []list.Weight{{Route: "tags", By: 1}}, 0, 9)
	expect(t, "the example", got, e, []list.Score{{1, 500}, {2, 500}}, api.OK)
}

// P4.14: errors, in their order.
func TestRelatedErrors(t *testing.T) {
	l := items(t, `tags "a"; n 1; e ""`, `tags ["a"]`)
	good := list.Weight{Route: "tags", By: 1}
	for name, c := range map[string]struct {
		l          []api.Value
		weights    []list.Weight
		item, most int
		want       api.Errno
	}{
		"a list first":         {[]api.Value{day(-1)}, make([]list.Weight, list.MaxWeights+1), 9, -1, api.ErrRange},
		"too many weights":     {l, slices.Repeat([]list.Weight{{Route: "A"}}, list.MaxWeights+1), 9, -1, api.ErrLarge},
		"a route":              {l, []list.Weight{{Route: "A", By: 0}}, 9, -1, api.ErrPath},
		"by nothing":           {l, []list.Weight{{Route: "n", By: 0}}, 9, -1, api.ErrRange},
		"by too much":          {l, []list.Weight{good, {Route: "tags", By: list.MaxWeight + 1}}, 9, -1, api.ErrRange},
		"by far too much":      {l, []list.Weight{{Route: "tags", By: math.MaxInt}}, 9, -1, api.ErrRange},
		"by less":              {l, []list.Weight{{Route: "tags", By: -1}}, 0, 1, api.ErrRange},
		"a kind":               {l, []list.Weight{{Route: "n", By: 1}, {Route: "A", By: 1}}, 9, -1, api.ErrKind},
		"a name":               {l, []list.Weight{good, {Route: "e", By: 1}}, 9, -1, api.ErrName},
		"an earlier weight":    {l, []list.Weight{{Route: "e", By: 1}, {Route: "n", By: 1}}, 0, 1, api.ErrName},
		"no such item":         {l, []list.Weight{good}, 2, -1, api.ErrNone},
		"no item below 0":      {l, []list.Weight{good}, -1, 1, api.ErrNone},
		"no item far":          {l, nil, math.MaxInt, 1, api.ErrNone},
		"no item of none":      {nil, nil, 0, 1, api.ErrNone},
		"at most below 0":      {l, []list.Weight{good}, 0, -1, api.ErrRange},
		"at most too many":     {l, []list.Weight{good}, 0, list.MaxList + 1, api.ErrRange},
		"at most far too many": {l, nil, 1, math.MaxInt, api.ErrRange},
	} {
		got, e := list.Related(c.l, c.weights, c.item, c.most)
		expect(t, name, got, e, []list.Score{}, c.want)
	}
}

// P4.14: random items.
func TestRandomRelated(t *testing.T) {
	r := rand.New(rand.NewSource(8))
	for range 300 {
		var l []api.Value
		for range 1 + r.Intn(10) {
			v := table("t", listOf(), "u", listOf())
			for i := range v.Items {
				for range r.Intn(4) {
					v.Items[i].Items = append(v.Items[i].Items, str([]string{"a", "b", "c", "d", "A"}[r.Intn(5)]))
				}
			}
			l = append(l, v)
		}
		weights := []list.Weight{{"t", 1 + r.Intn(3)}, {"u", 1 + r.Intn(2)}, {"t.0", 1}}
		item := r.Intn(len(l))
		var want []list.Score
		for i := range l {
			score := 0
			for _, w := range weights {
				terms, _ := list.Terms(l, w.Route)
				for _, term := range terms {
					if slices.Contains(term.Items, i) && slices.Contains(term.Items, item) {
						score += w.By * 1000 / len(term.Items)
					}
				}
			}
			if score > 0 && i != item {
				want = append(want, list.Score{Item: i, Score: score})
			}
		}
		slices.SortStableFunc(want, func(a, b list.Score) int { return b.Score - a.Score })
		most := r.Intn(5)
		want = want[:min(most, len(want))]
		got, e := list.Related(l, weights, item, most)
		expect(t, "random items", got, e, want, api.OK)
	}
}
