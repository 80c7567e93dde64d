package asset

import (
	"slices"
	"strings"

	"masthead/api"
	"masthead/tree"
)

// Process makes the assets of a site.
func Process(files []api.File, small bool) ([]Made, Fault) {
	if len(files) > api.MaxFiles || anyLarge(files) {
		return nil, Fault{E: api.ErrLarge}
	}
	m := newMaker(files, small)
	for _, step := range []func(i int) Fault{m.read, m.checkLoop, m.make} {
		for i := range m.files {
			if fault := step(i); fault.E != api.OK {
				return nil, fault
			}
		}
	}
	return m.made, Fault{}
}

// maker makes assets of files, which are in the order of their paths.
type maker struct {
	files []api.File
	small bool
	at    map[string]int // of each path
	links [][]Link       // of each file
	needs [][]int        // the files whose Names each file needs
	made  []Made         // without a Name, as long as it is not made
}

func newMaker(files []api.File, small bool) *maker {
	many := len(files)
	m := &maker{small: small, at: map[string]int{}, links: make([][]Link, many), needs: make([][]int, many), made: make([]Made, many)}
	m.files = slices.SortedStableFunc(slices.Values(files), func(a, b api.File) int { return strings.Compare(a.Path, b.Path) })
	for i, file := range m.files {
		m.at[file.Path] = i
	}
	return m
}

// fault is that of a file; none, if all is well.
func (m *maker) fault(i, at int, e api.Errno) Fault {
	if e == api.OK {
		return Fault{}
	}
	return Fault{Path: m.files[i].Path, At: at, E: e}
}

// read looks at the path of a file and at its tokens.
func (m *maker) read(i int) Fault {
	path, body := m.files[i].Path, m.files[i].Body
	at, e := 0, api.OK
	switch {
	case tree.CheckPath(path) != api.OK:
		e = api.ErrPath
	case i > 0 && m.files[i-1].Path == path:
		e = api.ErrTwice
	case KindOf(path) == Script:
		_, at, e = ScriptTokens(body)
	case KindOf(path) == Style:
		m.links[i], at, e = Links(body)
		m.needs[i] = m.targets(i)
	}
	return m.fault(i, at, e)
}

// targets are the files to which the links of a file lead, each once.
func (m *maker) targets(i int) []int {
	var l []int
	for _, link := range m.links[i] {
		if j, ok := m.target(i, link.Path); ok && !slices.Contains(l, j) {
			l = append(l, j)
		}
	}
	return l
}

// target is the file to which a link of another one leads; false, if there is none.
func (m *maker) target(i int, link string) (int, bool) {
	path, ok := follow(m.files[i].Path, link)
	if !ok {
		return 0, false
	}
	j, ok := m.at[path]
	return j, ok
}

// follow goes from the directory of a file to where a link leads; false, if it goes up from the root.
func follow(from, link string) (string, bool) {
	parts := strings.Split(from, "/")
	parts = parts[:len(parts)-1]
	if rest, ok := strings.CutPrefix(link, "/"); ok {
		parts, link = nil, rest
	}
	for part := range strings.SplitSeq(link, "/") {
		if part != ".." {
			parts = append(parts, part)
			continue
		}
		if len(parts) == 0 {
			return "", false
		}
		parts = parts[:len(parts)-1]
	}
	return strings.Join(parts, "/"), true
}

// checkLoop looks for a file that needs its own Name.
func (m *maker) checkLoop(i int) Fault {
	seen := make([]bool, len(m.files))
	for left := slices.Clone(m.needs[i]); len(left) > 0; {
		j := left[len(left)-1]
		left = left[:len(left)-1]
		if j == i {
			return m.fault(i, 0, api.ErrLoop)
		}
		if !seen[j] {
			seen[j] = true
			left = append(left, m.needs[j]...)
		}
	}
	return Fault{}
}

// make makes a file, and before it those whose Names it needs.
func (m *maker) make(i int) Fault {
	if m.made[i].Name != "" {
		return Fault{}
	}
	for _, j := range m.needs[i] {
		if fault := m.make(j); fault.E != api.OK {
			return fault
		}
	}
	path := m.files[i].Path
	body, e := m.body(i)
	if e != api.OK {
		return m.fault(i, 0, e)
	}
	name, e := Fingerprint(path, body)
	m.made[i] = Made{Path: path, Name: name, Body: body}
	return m.fault(i, 0, e)
}

// body is the new body of a file. Its tokens have been read before, and names change none of them but strings: so there is no error of tokens.
func (m *maker) body(i int) (string, api.Errno) {
	body, ok := relinked(m.files[i].Body, m.links[i], func(path string) (string, bool) {
		j, ok := m.target(i, path)
		return "/" + m.made[j].Name, ok
	})
	if !ok {
		return "", api.ErrLarge
	}
	if kind := KindOf(m.files[i].Path); m.small && (kind == Style || kind == Script) {
		body, _, _ = minified(kind, body)
	}
	return body, api.OK
}
