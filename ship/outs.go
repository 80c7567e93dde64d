package ship

import (
	"slices"
	"strings"

	"masthead/api"
	"masthead/tree"
)

const (
	maxOuts   = 4 * api.MaxFiles
	indexFile = "index.html"
	pageEnd   = ".html"
)

// CheckOuts says whether a list of outputs is valid.
func CheckOuts(l []api.Out) api.Errno {
	if len(l) > maxOuts {
		return api.ErrLarge
	}
	last := lastBelow(l)
	for i, out := range l {
		switch {
		case tree.CheckPath(out.Path) != api.OK:
			return api.ErrPath
		case i > 0 && out.Path <= l[i-1].Path:
			return api.ErrOrder
		case last[out.Path] > i:
			return api.ErrTwice
		case len(out.Body) > api.MaxOut:
			return api.ErrLarge
		}
	}
	return api.OK
}

// lastBelow is the number of the last output below each directory.
func lastBelow(l []api.Out) map[string]int {
	last := map[string]int{}
	for i, out := range l {
		for _, directory := range above(out.Path) {
			last[directory] = i
		}
	}
	return last
}

// above are the directories that a path is in: its beginnings up to a slash. Those that are too long to be a path are left out.
func above(path string) []string {
	var l []string
	for i := range min(len(path), api.MaxPath+1) {
		if path[i] == '/' {
			l = append(l, path[:i])
		}
	}
	return l
}

// checkBoth says whether two lists of outputs are valid.
func checkBoth(a, b []api.Out) api.Errno {
	if e := CheckOuts(a); e != api.OK {
		return e
	}
	return CheckOuts(b)
}

// Address is that of a path.
func Address(path string) (string, api.Errno) {
	if tree.CheckPath(path) != api.OK {
		return "", api.ErrPath
	}
	return addressOf(path), api.OK
}

// addressOf is the address of what is a path.
func addressOf(path string) string {
	if path == indexFile || strings.HasSuffix(path, "/"+indexFile) {
		path = strings.TrimSuffix(path, indexFile)
	}
	return "/" + path
}

// Path is that of an address.
func Path(address string) (string, api.Errno) {
	path, ok := strings.CutPrefix(address, "/")
	if strings.HasSuffix(address, "/") {
		path += indexFile
	}
	if !ok || tree.CheckPath(path) != api.OK {
		return "", api.ErrPath
	}
	return path, api.OK
}

// isAddress says whether there is a path of a string.
func isAddress(s string) bool {
	_, e := Path(s)
	return e == api.OK
}

func isPage(out api.Out) bool { return strings.HasSuffix(out.Path, pageEnd) }

func isNoPage(out api.Out) bool { return !isPage(out) }

func pathOf(out api.Out) string { return out.Path }

// find is the position of the item with a key in a list that rises by its keys; false, if there is none.
func find[T any](l []T, key string, keyOf func(T) string) (int, bool) {
	return slices.BinarySearchFunc(l, key, func(x T, key string) int { return strings.Compare(keyOf(x), key) })
}

// has says whether one of valid outputs has a path.
func has(l []api.Out, path string) bool {
	_, ok := find(l, path, pathOf)
	return ok
}
