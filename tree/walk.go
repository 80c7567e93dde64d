package tree

import (
	"slices"
	"strings"

	"masthead/api"
)

// view is a site without an error, with what is looked up in it.
type view struct {
	Site
	numbers      map[place]int // of the pages
	parents      []int         // -1: a root; a parent comes before its children
	translations []string      // the translation keys
}

// look is a view of a site that has pages with these numbers.
func look(s Site, numbers ...int) (view, api.Errno) {
	if e := CheckSite(s); e != api.OK {
		return view{}, e
	}
	for _, i := range numbers {
		if i < 0 || i >= len(s.Pages) {
			return view{}, api.ErrNone
		}
	}
	v := view{Site: s, numbers: map[place]int{}}
	for i, p := range s.Pages {
		v.numbers[place{p.Language, p.Key}] = i
		v.translations = append(v.translations, translationKey(p))
		parent := -1
		if p.Key != "" {
			parent = v.numbers[place{p.Language, directoryOf(p.Key)}]
		}
		v.parents = append(v.parents, parent)
	}
	return v, api.OK
}

// Find is the number of the page with an address, or -1.
func Find(s Site, address string) int {
	if CheckSite(s) != api.OK {
		return -1
	}
	return slices.IndexFunc(s.Pages, func(p Page) bool { return p.Address == address })
}

// Parent is the number of the Section that a page is in, or -1 for a root.
func Parent(s Site, i int) (int, api.Errno) {
	v, e := look(s, i)
	if e != api.OK {
		return 0, e
	}
	return v.parents[i], api.OK
}

// Children are the pages that are directly in a Section.
func Children(s Site, i int) ([]int, api.Errno) {
	v, e := look(s, i)
	if e != api.OK {
		return nil, e
	}
	var l []int
	for j, parent := range v.parents {
		if parent == i {
			l = append(l, j)
		}
	}
	return l, api.OK
}

// Below are the pages in a Section, and in those in it.
func Below(s Site, i int) ([]int, api.Errno) {
	v, e := look(s, i)
	if e != api.OK {
		return nil, e
	}
	var l []int
	below := make([]bool, len(v.parents))
	for j, parent := range v.parents {
		below[j] = parent == i || parent >= 0 && below[parent]
		if below[j] {
			l = append(l, j)
		}
	}
	return l, api.OK
}

// Trail leads from the root down to a page.
func Trail(s Site, i int) ([]int, api.Errno) {
	v, e := look(s, i)
	if e != api.OK {
		return nil, e
	}
	return v.trail(i), api.OK
}

func (v view) trail(i int) []int {
	var l []int
	for ; i >= 0; i = v.parents[i] {
		l = append(l, i)
	}
	slices.Reverse(l)
	return l
}

// Translations are the pages that are one page in several languages.
func Translations(s Site, i int) ([]int, api.Errno) {
	v, e := look(s, i)
	if e != api.OK {
		return nil, e
	}
	var l []int
	for j, key := range v.translations {
		if key == v.translations[i] {
			l = append(l, j)
		}
	}
	return l, api.OK
}

// Resolve finds the page that a reference in a page means, and the fragment.
func Resolve(s Site, from int, ref string) (int, string, api.Errno) {
	v, e := look(s, from)
	if e != api.OK {
		return 0, "", e
	}
	if len(ref) > MaxRef {
		return 0, "", api.ErrLarge
	}
	path, fragment, _ := strings.Cut(ref, "#")
	if path == "" {
		return from, fragment, api.OK
	}
	p := s.Pages[from]
	directory := p.Key
	if p.Kind == Single {
		directory = directoryOf(p.Key)
	}
	key, ok := follow(directory, path)
	if !ok {
		return 0, "", api.ErrPath
	}
	for _, language := range []string{p.Language, s.Languages[0]} {
		if i, ok := v.numbers[place{language, key}]; ok {
			return i, fragment, api.OK
		}
	}
	return 0, "", api.ErrNone
}

// follow is the key to which a path leads from a directory.
func follow(directory, path string) (key string, ok bool) {
	if path == "/" {
		return "", true
	}
	if path[0] == '/' {
		directory, path = "", path[1:]
	}
	for _, part := range strings.Split(path, "/") {
		switch {
		case part == ".." && directory != "":
			directory = directoryOf(directory)
		case isPart(part):
			directory = join(directory, part)
		default:
			return "", false
		}
	}
	return directory, true
}
