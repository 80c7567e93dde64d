package asset

import (
	"slices"
	"strconv"
	"strings"

	"masthead/api"
	"masthead/tree"
)

// maxWidth is how wide images can be of which there are several.
const maxWidth = 10_000

// SourceSet says at which addresses an image is in which widths.
func SourceSet(address string, width int, widths []int) (string, api.Errno) {
	if e := checkSources(address, width, widths); e != api.OK {
		return "", e
	}
	var l []string
	for _, w := range widths {
		if w < width {
			l = append(l, source(address, w))
		}
	}
	return strings.Join(append(l, source(address, width)), ", "), api.OK
}

func checkSources(address string, width int, widths []int) api.Errno {
	path, rooted := strings.CutPrefix(address, "/")
	if !rooted || tree.CheckPath(path) != api.OK {
		return api.ErrPath
	}
	if len(widths) > MaxWidths {
		return api.ErrLarge
	}
	if !isWidth(width) || slices.ContainsFunc(widths, func(w int) bool { return !isWidth(w) }) {
		return api.ErrRange
	}
	for i := 1; i < len(widths); i++ {
		if widths[i] <= widths[i-1] {
			return api.ErrOrder
		}
	}
	return api.OK
}

func isWidth(n int) bool { return n >= 1 && n <= maxWidth }

// source is the address of an image in one width, and that width.
func source(address string, width int) string {
	number := strconv.Itoa(width)
	return address + "?w=" + number + " " + number + "w"
}
