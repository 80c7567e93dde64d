package ship

import (
	"strings"

	"masthead/api"
)

// isOutside says whether a target leads to another site.
func isOutside(target string) bool {
	end := strings.IndexAny(target, ":/?#")
	return end >= 0 && target[end] == ':' || strings.HasPrefix(target, "//")
}

// cutTarget is what says where a target leads, without its query, and its fragment.
func cutTarget(target string) (rest, fragment string) {
	rest, fragment, _ = strings.Cut(target, "#")
	rest, _, _ = strings.Cut(rest, "?")
	return rest, fragment
}

// decode is a string with the bytes for which it has a percent sign and two digits.
func decode(s string) string {
	var b []byte
	for i := 0; i < len(s); i++ {
		c := s[i]
		if c == '%' && i+2 < len(s) && digit16(s[i+1]) >= 0 && digit16(s[i+2]) >= 0 {
			c = byte(digit16(s[i+1])<<4 | digit16(s[i+2]))
			i += 2
		}
		b = append(b, c)
	}
	return string(b)
}

// digit16 is the value of a digit of base 16; -1, if it is none.
func digit16(c byte) int {
	switch {
	case c >= '0' && c <= '9':
		return int(c - '0')
	case c >= 'a' && c <= 'f':
		return int(c-'a') + 10
	case c >= 'A' && c <= 'F':
		return int(c-'A') + 10
	}
	return -1
}

// resolve is the path to which a decoded target leads from an address; empty, if it goes up from the root.
func resolve(from, target string) (path string, toDirectory bool) {
	if !strings.HasPrefix(target, "/") {
		target = from[:strings.LastIndexByte(from, '/')+1] + target
	}
	var parts []string
	for _, part := range strings.Split(target, "/") {
		toDirectory = part == "" || part == "." || part == ".."
		switch {
		case !toDirectory:
			parts = append(parts, part)
		case part == ".." && len(parts) == 0:
			return "", false
		case part == "..":
			parts = parts[:len(parts)-1]
		}
	}
	if toDirectory {
		parts = append(parts, indexFile)
	}
	return strings.Join(parts, "/"), toDirectory
}

// goal is the number of the output to which a target leads from one of valid outputs, or -1 and the path that it would have.
func goal(l []api.Out, from int, target string) (number int, path string) {
	if target == "" {
		return from, ""
	}
	path, toDirectory := resolve(addressOf(l[from].Path), decode(target))
	number, ok := find(l, path, pathOf)
	if !ok && !toDirectory {
		number, ok = find(l, path+"/"+indexFile, pathOf)
	}
	if !ok {
		return -1, path
	}
	return number, ""
}
