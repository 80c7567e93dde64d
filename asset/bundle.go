package asset

import (
	"slices"
	"strconv"
	"strings"

	"masthead/api"
	"masthead/tree"
)

// base is that of the numbers in maps of bundles, and baseDigits are its digits.
const (
	base       = 32
	baseDigits = "0123456789abcdefghijklmnopqrstuv"
)

// Bundle joins parts.
func Bundle(parts []api.File) (Bundled, api.Errno) {
	if len(parts) > MaxParts || anyLarge(parts) {
		return Bundled{}, api.ErrLarge
	}
	var b Bundled
	var body strings.Builder
	for _, part := range parts {
		body.WriteString(part.Body)
		if part.Body != "" && !strings.HasSuffix(part.Body, "\n") {
			body.WriteByte('\n')
		}
		b.Parts = append(b.Parts, part.Path)
		b.Ends = append(b.Ends, body.Len())
	}
	if e := checkPaths(b.Parts); e != api.OK {
		return Bundled{}, e
	}
	if body.Len() > api.MaxOut {
		return Bundled{}, api.ErrLarge
	}
	b.Body = body.String()
	return b, api.OK
}

// anyLarge says whether a file has a body that is too large.
func anyLarge(files []api.File) bool {
	return slices.ContainsFunc(files, func(f api.File) bool { return len(f.Body) > api.MaxBody })
}

// checkPaths says whether all are paths, each there once.
func checkPaths(paths []string) api.Errno {
	for i, path := range paths {
		switch {
		case tree.CheckPath(path) != api.OK:
			return api.ErrPath
		case slices.Contains(paths[:i], path):
			return api.ErrTwice
		}
	}
	return api.OK
}

// Locate says in which part a byte of a bundle is, and where in it.
func Locate(b Bundled, at int) (part, from int, e api.Errno) {
	if e := checkBundled(b); e != api.OK {
		return 0, 0, e
	}
	if at < 0 || at >= len(b.Body) {
		return 0, 0, api.ErrRange
	}
	start := 0
	for b.Ends[part] <= at {
		start = b.Ends[part]
		part++
	}
	return part, at - start, api.OK
}

// checkBundled says whether the parts of a bundle, whatever their paths, divide its body.
func checkBundled(b Bundled) api.Errno {
	if len(b.Body) > api.MaxOut {
		return api.ErrLarge
	}
	if len(b.Parts) != len(b.Ends) || len(b.Parts) > MaxParts {
		return api.ErrForm
	}
	last := 0
	for _, end := range b.Ends {
		if end < last {
			return api.ErrForm
		}
		last = end
	}
	if last != len(b.Body) {
		return api.ErrForm
	}
	return api.OK
}

// MapString writes which parts a bundle has, and how many bytes of it each one has.
func MapString(b Bundled) (string, api.Errno) {
	if e := checkBundled(b); e != api.OK {
		return "", e
	}
	if e := checkPaths(b.Parts); e != api.OK {
		return "", e
	}
	var s strings.Builder
	start := 0
	for i, path := range b.Parts {
		s.WriteString(path + " " + strconv.FormatInt(int64(b.Ends[i]-start), base) + "\n")
		start = b.Ends[i]
	}
	return s.String(), api.OK
}

// ReadMap reads what MapString writes: a bundle without its body.
func ReadMap(s string) (Bundled, api.Errno) {
	if len(s) > api.MaxBody {
		return Bundled{}, api.ErrLarge
	}
	b, ok := readParts(s)
	if !ok {
		return Bundled{}, api.ErrSyntax
	}
	if many := len(b.Ends); many > MaxParts || many > 0 && b.Ends[many-1] > api.MaxOut {
		return Bundled{}, api.ErrLarge
	}
	if e := checkPaths(b.Parts); e != api.OK {
		return Bundled{}, e
	}
	return b, api.OK
}

// readParts reads lines of parts. Ends stop just above the greatest one that can be, so that no sum is too great to be written.
func readParts(s string) (b Bundled, ok bool) {
	end := 0
	for s != "" {
		line, rest, ended := strings.Cut(s, "\n")
		path, number, divided := strings.Cut(line, " ")
		size, ok := readSize(number)
		if !ended || !divided || !ok {
			return Bundled{}, false
		}
		end = min(end+size, api.MaxOut+1)
		b.Parts, b.Ends = append(b.Parts, path), append(b.Ends, end)
		s = rest
	}
	return b, true
}

// readSize reads a number. One above api.MaxOut is read as the one after that.
func readSize(s string) (size int, ok bool) {
	if s == "" || s[0] == '0' && s != "0" {
		return 0, false
	}
	for i := range len(s) {
		digit := strings.IndexByte(baseDigits, s[i])
		if digit < 0 {
			return 0, false
		}
		size = min(size*base+digit, api.MaxOut+1)
	}
	return size, true
}
