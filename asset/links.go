package asset

import (
	"strings"

	"masthead/api"
)

// Links are the links of a style. With an error of its tokens it returns where that is.
func Links(s string) ([]Link, int, api.Errno) {
	if len(s) > api.MaxBody {
		return nil, 0, api.ErrLarge
	}
	var links []Link
	var last [3]found // before the token
	for t, e := range tokens(Style, s) {
		if e != api.OK {
			return nil, t.to, e
		}
		if link := last[2]; endsLink(last, t) {
			from, to := link.from+1, link.to-1
			links = append(links, Link{From: from, To: to, Path: s[from:to]})
		}
		last = [3]found{last[1], last[2], t}
	}
	return links, 0, api.OK
}

// endsLink says whether a token ends a link that the ones before it begin.
func endsLink(last [3]found, t found) bool {
	return last[0].Token == Token{Word, "url"} && isMark(last[1].Token, "(") && last[2].Kind == Str && isMark(t.Token, ")")
}

// Relink puts names for the Paths of links. With an error of the style's tokens it returns where that is.
func Relink(s string, names []Name) (string, int, api.Errno) {
	if len(s) > api.MaxBody || len(names) > MaxParts {
		return "", 0, api.ErrLarge
	}
	byPath, e := nameTable(names)
	if e != api.OK {
		return "", 0, e
	}
	links, at, e := Links(s)
	if e != api.OK {
		return "", at, e
	}
	out, ok := relinked(s, links, func(path string) (string, bool) {
		name, ok := byPath[path]
		return name, ok
	})
	if !ok {
		return "", 0, api.ErrLarge
	}
	return out, 0, api.OK
}

// nameTable has the Names by their Paths.
func nameTable(names []Name) (map[string]string, api.Errno) {
	byPath := map[string]string{}
	for _, n := range names {
		if _, ok := byPath[n.Path]; ok {
			return nil, api.ErrTwice
		}
		if !fitsString(n.Name) {
			return nil, api.ErrByte
		}
		byPath[n.Path] = n.Name
	}
	return byPath, api.OK
}

// fitsString says whether a name can be in a string with any quotes, as it is.
func fitsString(name string) bool {
	for i := range len(name) {
		if c := name[i]; c <= ' ' || c == 127 || strings.IndexByte("\"'\\", c) >= 0 {
			return false
		}
	}
	return true
}

// relinked is a style with other names for the Paths of some of its links; false, if it has more than api.MaxOut bytes.
func relinked(s string, links []Link, nameOf func(path string) (name string, ok bool)) (string, bool) {
	var out strings.Builder
	done := 0 // bytes of the style
	for _, link := range links {
		name, ok := nameOf(link.Path)
		if !ok {
			continue
		}
		if len(name) > api.MaxOut-out.Len() {
			return "", false
		}
		out.WriteString(s[done:link.From])
		out.WriteString(name)
		done = link.To
	}
	out.WriteString(s[done:])
	return out.String(), out.Len() <= api.MaxOut
}
