package list

import (
	"slices"

	"masthead/api"
	"masthead/conf"
)

// choose is the positions of what is chosen of a list, rising.
func choose[T any](l []T, chosen func(x T) bool) []int {
	var positions []int
	for i, x := range l {
		if chosen(x) {
			positions = append(positions, i)
		}
	}
	return positions
}

// all chooses everything.
func all(api.Value) bool { return true }

// column is what the items of a list have at a route.
type column []api.Value

// columnOf is the column of a list that has not been checked.
func columnOf(l []api.Value, route string) (column, api.Errno) {
	if e := checkItems(l); e != api.OK {
		return nil, e
	}
	return columnAt(l, route)
}

// columnAt is the column of a list that has been checked.
func columnAt(l []api.Value, route string) (column, api.Errno) {
	if !isRoute(route) {
		return nil, api.ErrPath
	}
	c := make(column, len(l))
	for i, v := range l {
		c[i] = has(v, route)
	}
	return c, api.OK
}

// compare orders positions by what is there.
func (c column) compare(i, j int) int { return conf.Compare(c[i], c[j]) }

// firsts is, for each position, the first one at which there is an equal value.
func (c column) firsts() []int {
	order := choose(c, all)
	slices.SortFunc(order, sortKeys{{c, false}}.compare)
	firsts := make([]int, len(c))
	for n, i := range order {
		firsts[i] = i
		if n > 0 && c.compare(order[n-1], i) == 0 {
			firsts[i] = firsts[order[n-1]]
		}
	}
	return firsts
}

// seen is the numbers that there have been.
type seen map[int]bool

// isNew says whether a number comes for the first time.
func (s seen) isNew(n int) bool {
	before := s[n]
	s[n] = true
	return !before
}
