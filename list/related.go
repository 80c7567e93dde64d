package list

import (
	"cmp"
	"slices"

	"masthead/api"
)

// Related are the items that have terms in common with an item, the most related one first.
func Related(l []api.Value, weights []Weight, item, most int) ([]Score, api.Errno) {
	if e := checkItems(l); e != api.OK {
		return nil, e
	}
	if len(weights) > MaxWeights {
		return nil, api.ErrLarge
	}
	s := make(scores, len(l))
	for _, w := range weights {
		if e := s.add(l, w, item); e != api.OK {
			return nil, e
		}
	}
	if item < 0 || item >= len(l) {
		return nil, api.ErrNone
	}
	if most < 0 || most > MaxList {
		return nil, api.ErrRange
	}
	s[item] = 0
	order := choose(s, func(score int) bool { return score > 0 })
	slices.SortStableFunc(order, s.compare)
	var best []Score
	for _, i := range order[:min(most, len(order))] {
		best = append(best, Score{Item: i, Score: s[i]})
	}
	return best, api.OK
}

// scores are those of all items.
type scores []int

// compare orders positions, the greatest score first.
func (s scores) compare(i, j int) int { return cmp.Compare(s[j], s[i]) }

// add adds what a weight gives to the items that have terms in common with an item.
func (s scores) add(l []api.Value, w Weight, item int) api.Errno {
	c, e := columnAt(l, w.Route)
	if e != api.OK {
		return e
	}
	if w.By < 1 || w.By > MaxWeight {
		return api.ErrRange
	}
	terms, e := c.terms()
	if e != api.OK {
		return e
	}
	for _, t := range terms {
		if _, shared := slices.BinarySearch(t.Items, item); !shared {
			continue
		}
		for _, i := range t.Items {
			s[i] += w.By * 1000 / len(t.Items)
		}
	}
	return api.OK
}
