package tmpl

import (
	"strings"

	"masthead/mark"
)

// EscapeAddr is a string as a part of an address: as its first one, or as a later one.
func EscapeAddr(s string, first bool) string {
	if first && !isSafe(s) {
		return "#"
	}
	var b strings.Builder
	for i := range len(s) {
		switch c := s[i]; {
		case isLetter(c) || isDigit(c) || strings.IndexByte("-_.~", c) >= 0:
			b.WriteByte(c)
		case first && strings.IndexByte(":/?#=&%+,@", c) >= 0:
			b.WriteByte(c)
		default:
			b.WriteByte('%')
			b.WriteString(hex(c, "0123456789ABCDEF"))
		}
	}
	return mark.Escape(b.String())
}

// isSafe says whether an address has no scheme, or one that can do no more than lead elsewhere.
func isSafe(address string) bool {
	end := strings.IndexAny(address, ":/?#")
	if end < 0 || address[end] != ':' {
		return true
	}
	switch lower(address[:end]) {
	case "http", "https", "mailto":
		return true
	}
	return false
}
