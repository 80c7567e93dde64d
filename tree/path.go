package tree

import (
	"slices"
	"strings"

	"masthead/api"
)

// CheckPath says whether a string is a path.
func CheckPath(path string) api.Errno {
	if !isPath(path) {
		return api.ErrPath
	}
	return api.OK
}

// CheckAddress says whether a string is an address.
func CheckAddress(address string) api.Errno {
	if !isAddress(address) {
		return api.ErrPath
	}
	return api.OK
}

func isPath(s string) bool {
	if len(s) > api.MaxPath {
		return false
	}
	for _, part := range strings.Split(s, "/") {
		if !isPart(part) {
			return false
		}
	}
	return true
}

func isPart(s string) bool {
	if s == "" || len(s) > api.MaxPart || s == "." || s == ".." {
		return false
	}
	for i := range len(s) {
		if !isSmall(s[i]) && !isDigit(s[i]) && !isMark(s[i]) {
			return false
		}
	}
	return true
}

func isAddress(s string) bool {
	last := len(s) - 1
	return s == "/" || last > 1 && s[0] == '/' && s[last] == '/' && isPath(s[1:last])
}

func isSmall(c byte) bool { return c >= 'a' && c <= 'z' }

func isBig(c byte) bool { return c >= 'A' && c <= 'Z' }

func isDigit(c byte) bool { return c >= '0' && c <= '9' }

// isMark says whether a byte divides words in a part.
func isMark(c byte) bool { return c == '-' || c == '_' || c == '.' }

// Slug makes a part of a path of a string; it may be empty.
func Slug(s string) string {
	var part []byte
	gap := false
	for i := 0; i < len(s) && len(part) < api.MaxPart; i++ {
		c := s[i]
		if isBig(c) {
			c += 'a' - 'A'
		}
		if !isSmall(c) && !isDigit(c) {
			gap = true
			continue
		}
		if gap && len(part) > 0 {
			part = append(part, '-')
		}
		part, gap = append(part, c), false
	}
	return strings.TrimSuffix(string(part[:min(len(part), api.MaxPart)]), "-")
}

// TitleOf makes a title of a part of a path.
func TitleOf(part string) string {
	title := []byte(part)
	for i, c := range title {
		if isMark(c) {
			title[i] = ' '
		}
	}
	if len(title) > 0 && isSmall(title[0]) {
		title[0] -= 'a' - 'A'
	}
	return string(title)
}

// cutLast divides a path before its last part; the directory may be empty.
func cutLast(path string) (directory, last string) {
	i := strings.LastIndexByte(path, '/')
	return path[:max(i, 0)], path[i+1:]
}

// directoryOf is a path without its last part.
func directoryOf(path string) string {
	directory, _ := cutLast(path)
	return directory
}

// join is the path of a part in a directory.
func join(directory, part string) string {
	if directory == "" {
		return part
	}
	return directory + "/" + part
}

// eachAbove visits the directories above a path or key, the nearest one first, the empty one at last.
func eachAbove(path string, visit func(directory string)) {
	for path != "" {
		path = directoryOf(path)
		visit(path)
	}
}

// isBelow says whether a path goes on after a directory and a slash.
func isBelow(path, directory string) bool {
	return len(path) > len(directory) && path[len(directory)] == '/' && strings.HasPrefix(path, directory)
}

// areLanguages says whether strings can be the languages of a site.
func areLanguages(l []string) bool {
	if len(l) == 0 || len(l) > MaxLanguages {
		return false
	}
	for i, language := range l {
		if !isLanguage(language) || slices.Contains(l[:i], language) {
			return false
		}
	}
	return true
}

func isLanguage(s string) bool {
	if s == "" || len(s) > 8 {
		return false
	}
	for i := range len(s) {
		if !isSmall(s[i]) {
			return false
		}
	}
	return true
}
