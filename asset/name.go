package asset

import (
	"strings"

	"masthead/api"
	"masthead/tree"
)

// printDigits is how many digits of a digest are in a name.
const printDigits = 12

// Fingerprint is the name of a file: its path, with the first digits of its body's digest in it.
func Fingerprint(path, body string) (string, api.Errno) {
	if len(body) > api.MaxOut {
		return "", api.ErrLarge
	}
	if tree.CheckPath(path) != api.OK {
		return "", api.ErrPath
	}
	at := endOfStem(path)
	name := path[:at] + "." + Digest(body)[:printDigits] + path[at:]
	if tree.CheckPath(name) != api.OK {
		return "", api.ErrPath
	}
	return name, api.OK
}

// Plain is the path of which a name has been made, and the digits that it has.
func Plain(path string) (string, string, bool) {
	start := startOfLast(path)
	for _, end := range [2]int{strings.LastIndexByte(path, '.'), len(path)} {
		dot := end - printDigits - 1
		if dot > start && path[dot] == '.' && isPrint(path[dot+1:end]) {
			return path[:dot] + path[end:], path[dot+1 : end], true
		}
	}
	return "", "", false
}

// KindOf is the kind of the file with a path.
func KindOf(path string) int {
	dot := strings.LastIndexByte(path, '.')
	if dot < 0 {
		return Else
	}
	switch path[dot+1:] {
	case "style":
		return Style
	case "script":
		return Script
	case "image":
		return Images
	}
	return Else
}

// startOfLast is where the last part of a path begins.
func startOfLast(path string) int { return strings.LastIndexByte(path, '/') + 1 }

// endOfStem is where digits are put into a path: a point at the beginning of the last part hides a file, and divides nothing.
func endOfStem(path string) int {
	if dot := strings.LastIndexByte(path, '.'); dot > startOfLast(path) {
		return dot
	}
	return len(path)
}

// isPrint says whether bytes are digits as a digest has them.
func isPrint(s string) bool { return strings.Trim(s, digits16) == "" }
