package list

import "masthead/api"

// checkNested checks how large x is with all that is nested in it, how deep, and then each element, before those in it.
func checkNested[T any](x T, inner func(x T) []T, most, deepest int, check func(x T) api.Errno) api.Errno {
	if count(x, inner, most) > most {
		return api.ErrLarge
	}
	if levels(x, inner) > deepest {
		return api.ErrDeep
	}
	return checkEach(x, inner, check)
}

// count is how many elements there are, or some number above most, if there are more.
func count[T any](x T, inner func(x T) []T, most int) int {
	n, l := 1, inner(x)
	for i := 0; i < len(l) && n <= most; i++ {
		n += count(l[i], inner, most-n)
	}
	return n
}

func levels[T any](x T, inner func(x T) []T) int {
	deepest := 0
	for _, y := range inner(x) {
		deepest = max(deepest, levels(y, inner))
	}
	return deepest + 1
}

func checkEach[T any](x T, inner func(x T) []T, check func(x T) api.Errno) api.Errno {
	if e := check(x); e != api.OK {
		return e
	}
	for _, y := range inner(x) {
		if e := checkEach(y, inner, check); e != api.OK {
			return e
		}
	}
	return api.OK
}
