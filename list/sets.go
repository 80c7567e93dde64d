package list

import (
	"slices"

	"masthead/api"
)

// Union is the values of either list.
func Union(a, b []api.Value) ([]api.Value, api.Errno) {
	return combine(a, b, func(inA, inB bool) bool { return true })
}

// Meet is the values of a that are also in b.
func Meet(a, b []api.Value) ([]api.Value, api.Errno) {
	return combine(a, b, func(inA, inB bool) bool { return inA && inB })
}

// Minus is the values of a that are not in b.
func Minus(a, b []api.Value) ([]api.Value, api.Errno) {
	return combine(a, b, func(inA, inB bool) bool { return inA && !inB })
}

// combine is the values of two lists that are wanted, each once, in order.
func combine(a, b []api.Value, wanted func(inA, inB bool) bool) ([]api.Value, api.Errno) {
	if e := checkItems(a); e != api.OK {
		return nil, e
	}
	if e := checkItems(b); e != api.OK {
		return nil, e
	}
	both := slices.Concat(a, b)
	firsts := column(both).firsts()
	inB, before := seen{}, seen{}
	for _, first := range firsts[len(a):] {
		inB[first] = true
	}
	var l []api.Value
	for _, i := range choose(firsts, func(first int) bool { return before.isNew(first) && wanted(first < len(a), inB[first]) }) {
		l = append(l, clone(both[i]))
	}
	return l, api.OK
}
