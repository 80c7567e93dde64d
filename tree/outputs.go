package tree

import (
	"slices"
	"strings"

	"masthead/api"
)

const indexFile = "index.html"

// Outputs are the files that a site has.
func Outputs(s Site) ([]Output, api.Errno) {
	if e := CheckSite(s); e != api.OK {
		return nil, e
	}
	l := allOutputs(s)
	slices.SortStableFunc(l, func(a, b Output) int { return strings.Compare(a.Path, b.Path) })
	return l, api.OK
}

func allOutputs(s Site) []Output {
	var l []Output
	for i, p := range s.Pages {
		l = append(l, outputsOf(p, i)...)
	}
	return l
}

// outputsOf are those of a page: its own one, then its files.
func outputsOf(p Page, number int) []Output {
	base := p.Address[1:]
	l := []Output{{Path: base + indexFile, Page: number}}
	for _, file := range p.Files {
		l = append(l, Output{Path: base + file[len(p.Key)+1:], Page: number, File: file})
	}
	return l
}

// pathSet has the paths of outputs, and the directories that they need.
type pathSet struct{ files, directories map[string]bool }

func newPathSet() pathSet {
	return pathSet{files: map[string]bool{}, directories: map[string]bool{}}
}

func (s pathSet) add(path string) {
	s.files[path] = true
	eachAbove(path, func(directory string) { s.directories[directory] = true })
}

// meets says whether a path is that of an output, or one of both is a directory above the other one.
func (s pathSet) meets(path string) bool {
	found := s.files[path] || s.directories[path]
	eachAbove(path, func(directory string) { found = found || s.files[directory] })
	return found
}
