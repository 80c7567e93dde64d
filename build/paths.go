package build

import (
	"iter"
	"strings"

	"masthead/api"
)

// above are the directories that a path is in: its beginnings up to a slash. Those that are too long to be a path are left out.
func above(path string) iter.Seq[string] {
	return func(yield func(string) bool) {
		for i := range min(len(path), api.MaxPath+1) {
			if path[i] == '/' && !yield(path[:i]) {
				return
			}
		}
	}
}

// pathSet has paths, and the directories that they are in.
type pathSet struct{ files, directories map[string]bool }

func newPathSet(paths []string) pathSet {
	s := pathSet{files: map[string]bool{}, directories: map[string]bool{}}
	for _, path := range paths {
		s.files[path] = true
		for directory := range above(path) {
			s.directories[directory] = true
		}
	}
	return s
}

// hasNested says whether a path is a directory of one in the set, or the other way round.
func (s pathSet) hasNested(path string) bool {
	for directory := range above(path) {
		if s.files[directory] {
			return true
		}
	}
	return s.directories[path]
}

const indexFile = "index.html"

// pathOf is the path of the output with an address, which ends with a slash.
func pathOf(address string) string { return strings.TrimPrefix(address, "/") + indexFile }
