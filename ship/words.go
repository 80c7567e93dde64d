package ship

import "strings"

const maxWord = 30

// Words are the words of a string, without those that are too long.
func Words(text string) []string {
	var l []string
	from := 0
	for i := range len(text) + 1 {
		if i < len(text) && isWordByte(text[i]) {
			continue
		}
		if i > from && i-from <= maxWord {
			l = append(l, lower(text[from:i]))
		}
		from = i + 1
	}
	return l
}

func isWordByte(c byte) bool { return isAlphanumeric(c) || c >= 128 }

// Stem is a word without its ending.
func Stem(word string) string {
	n := len(word)
	if n < 4 || strings.Trim(word, "abcdefghijklmnopqrstuvwxyz") != "" {
		return word
	}
	switch ends := func(end string) bool { return strings.HasSuffix(word, end) }; {
	case ends("sses"), ends("ies"):
		return word[:n-2]
	case ends("ss"):
		return word
	case ends("s"), ends("eed"):
		return word[:n-1]
	case ends("ing") && n >= 6:
		return word[:n-3]
	case ends("ed") && n >= 5:
		return word[:n-2]
	}
	return word
}
