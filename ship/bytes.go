package ship

import "strings"

// blanks are the bytes between words and attributes.
const blanks = " \t\n"

func isLetter(c byte) bool { return isSmall(c) || isBig(c) }

func isSmall(c byte) bool { return c >= 'a' && c <= 'z' }

func isBig(c byte) bool { return c >= 'A' && c <= 'Z' }

func isAlphanumeric(c byte) bool { return isLetter(c) || c >= '0' && c <= '9' }

// lower is a string with small letters. Bytes from 128 on stay as they are, whatever letters they may be together.
func lower(s string) string {
	b := []byte(s)
	for i, c := range b {
		if isBig(c) {
			b[i] = c + 'a' - 'A'
		}
	}
	return string(b)
}

// isBlank says whether a string has nothing but blanks and line feeds.
func isBlank(s string) bool { return strings.Trim(s, blanks) == "" }

// hasControl says whether a string has a byte below 32.
func hasControl(s string) bool {
	for i := range len(s) {
		if s[i] < ' ' {
			return true
		}
	}
	return false
}
