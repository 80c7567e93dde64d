package tmpl

import (
	"strings"

	"masthead/api"
)

const (
	maxName         = 20 // bytes of a name, and of a part of a template's name
	maxTemplateName = 60
	blanks          = " \t\n"
)

func isSmall(c byte) bool { return c >= 'a' && c <= 'z' }

func isLetter(c byte) bool { return isSmall(c) || c >= 'A' && c <= 'Z' }

func isDigit(c byte) bool { return c >= '0' && c <= '9' }

func isBlank(c byte) bool { return strings.IndexByte(blanks, c) >= 0 }

// wordLength is how many of a word's bytes a string begins with; 0, if it begins with no word.
func wordLength(s string) int {
	n := 0
	for n < len(s) && (isSmall(s[n]) || n > 0 && (isDigit(s[n]) || s[n] == '_')) {
		n++
	}
	return n
}

// isName says whether a string can be the name of a variable, a key or a function.
func isName(s string) bool {
	return s != "" && len(s) <= maxName && wordLength(s) == len(s) && !isReserved(s)
}

// isReserved says whether a word stands for something else than a name.
func isReserved(word string) bool {
	switch word {
	case "if", "each", "with", "let", "call", "else", "end", "in", "and", "or", "not", "true", "false", "nil":
		return true
	}
	return false
}

func isTemplateName(s string) bool {
	if len(s) > maxTemplateName {
		return false
	}
	for _, part := range strings.Split(s, "/") {
		if part == "" || len(part) > maxName || strings.Trim(part, "abcdefghijklmnopqrstuvwxyz0123456789-_") != "" {
			return false
		}
	}
	return true
}

// checkText checks the bytes of a template or an expression.
func checkText(s string) api.Errno {
	if len(s) > MaxText {
		return api.ErrLarge
	}
	if hasControl(s) {
		return api.ErrByte
	}
	return api.OK
}

// hasControl says whether a string has a byte that cannot be in templates.
func hasControl(s string) bool {
	for i := range len(s) {
		if s[i] < ' ' && s[i] != '\t' && s[i] != '\n' {
			return true
		}
	}
	return false
}

// cutWord is what is before the first blank, and what comes after the blanks there.
func cutWord(s string) (word, rest string) {
	end := strings.IndexAny(s, blanks)
	if end < 0 {
		return s, ""
	}
	return s[:end], strings.TrimLeft(s[end:], blanks)
}

// lower is a string with letters from A to Z as those from a to z; other bytes stay, also those of no letters at all.
func lower(s string) string { return shifted(s, 'A', 'a') }

// upper is the other way round.
func upper(s string) string { return shifted(s, 'a', 'A') }

// shifted is a string with the 26 letters from one on as those from another one on.
func shifted(s string, from, to byte) string {
	b := []byte(s)
	for i, c := range b {
		if c >= from && c < from+26 {
			b[i] = c - from + to
		}
	}
	return string(b)
}
