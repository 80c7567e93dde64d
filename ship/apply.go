package ship

import (
	"slices"

	"masthead/api"
)

// Apply is the outputs after a step.
func Apply(l []api.Out, s Step) ([]api.Out, api.Errno) {
	if e := checkBoth(l, s.Files); e != api.OK {
		return nil, e
	}
	if s.Remove {
		if e := checkRemoval(l, s.Files); e != api.OK {
			return nil, e
		}
	}
	after := choose(l, func(out api.Out) bool { return !has(s.Files, out.Path) })
	if !s.Remove {
		after = merge(after, s.Files)
	}
	if e := CheckOuts(after); e != api.OK {
		return nil, e
	}
	return after, api.OK
}

func checkRemoval(l, files []api.Out) api.Errno {
	if slices.ContainsFunc(files, func(file api.Out) bool { return file.Body != "" }) {
		return api.ErrForm
	}
	if slices.ContainsFunc(files, func(file api.Out) bool { return !has(l, file.Path) }) {
		return api.ErrNone
	}
	return api.OK
}

// Events are the addresses of all files that are new, changed or gone.
func Events(old, next []api.Out) ([]string, api.Errno) {
	if e := checkBoth(old, next); e != api.OK {
		return nil, e
	}
	fresh, changed, gone := differences(old, next)
	var l []string
	for _, out := range slices.Concat(fresh, changed, gone) {
		l = append(l, addressOf(out.Path))
	}
	slices.Sort(l)
	return l, api.OK
}
