package asset

import (
	"iter"
	"strings"

	"masthead/api"
)

// styleMarks are the marks of styles; in scripts all is a mark that is nothing else.
const styleMarks = "{}()[];:,>"

// StyleTokens divides a style into tokens. With an error it returns where that is.
func StyleTokens(s string) ([]Token, int, api.Errno) { return readTokens(Style, s) }

// ScriptTokens divides a script into tokens. With an error it returns where that is.
func ScriptTokens(s string) ([]Token, int, api.Errno) { return readTokens(Script, s) }

func readTokens(kind int, s string) ([]Token, int, api.Errno) {
	if len(s) > api.MaxBody {
		return nil, 0, api.ErrLarge
	}
	return allTokens(kind, s)
}

// allTokens are the tokens of a string of any length.
func allTokens(kind int, s string) ([]Token, int, api.Errno) {
	var l []Token
	for t, e := range tokens(kind, s) {
		if e != api.OK {
			return nil, t.to, e
		}
		l = append(l, t.Token)
	}
	return l, 0, api.OK
}

// found is a token, and where it stands in a string.
type found struct {
	Token
	from, to int
}

// tokens goes through the tokens of a style or of a script. An error is the last thing that it yields: to is where that is.
func tokens(kind int, s string) iter.Seq2[found, api.Errno] {
	return func(yield func(found, api.Errno) bool) {
		for at := 0; at < len(s); {
			t, e := tokenAt(kind, s, at)
			if !yield(t, e) || e != api.OK {
				return
			}
			at = t.to
		}
	}
}

// tokenAt is the token from a position on. Words and Blanks consist of as many pieces as follow each other.
func tokenAt(kind int, s string, at int) (found, api.Errno) {
	t := found{Token: Token{Kind: kindAt(kind, s[at:])}, from: at, to: at}
	for t.to < len(s) && kindAt(kind, s[t.to:]) == t.Kind {
		size := pieceSize(kind, s[t.to:])
		if size == 0 {
			return t, api.ErrSyntax
		}
		if i := controlAt(s[t.to : t.to+size]); i >= 0 {
			t.to += i
			return t, api.ErrByte
		}
		t.to += size
		if t.Kind == Str || t.Kind == Mark {
			break
		}
	}
	t.Text = s[t.from:t.to]
	if t.Kind == Blank {
		t.Text = " "
	}
	return t, api.OK
}

// kindAt is the kind of the token to which the first byte of a string belongs.
func kindAt(kind int, s string) int {
	c := s[0]
	switch {
	case c == ' ' || c == '\t' || c == '\n' || strings.HasPrefix(s, "/*") || isLineComment(kind, s):
		return Blank
	case c == '"' || c == '\'':
		return Str
	case kind == Style && strings.IndexByte(styleMarks, c) >= 0 || kind == Script && !isScriptByte(c):
		return Mark
	}
	return Word
}

// pieceSize is how many bytes the string or comment has with which a string begins; other pieces have one. It is 0, if there is no end.
func pieceSize(kind int, s string) int {
	switch {
	case strings.HasPrefix(s, "/*"):
		end := strings.Index(s[2:], "*/")
		if end < 0 {
			return 0
		}
		return end + 4
	case isLineComment(kind, s):
		line, _, _ := strings.Cut(s, "\n")
		return len(line)
	case s[0] == '"' || s[0] == '\'':
		return quotedSize(s)
	}
	return 1
}

// quotedSize is how many bytes there are up to the second quote.
func quotedSize(s string) int {
	for i := 1; i < len(s) && s[i] != '\n'; i++ {
		switch {
		case s[i] == s[0]:
			return i + 1
		case s[i] == '\\' && !strings.HasPrefix(s[i+1:], "\n"):
			i++
		}
	}
	return 0
}

// isLineComment says whether a comment begins that goes on to the end of the line. Styles have none.
func isLineComment(kind int, s string) bool {
	return kind == Script && strings.HasPrefix(s, "//")
}

// isScriptByte says whether a byte belongs to a word of a script.
func isScriptByte(c byte) bool {
	return c >= 'a' && c <= 'z' || c >= 'A' && c <= 'Z' || c >= '0' && c <= '9' || c == '_' || c == '$' || c >= 128
}

// controlAt is where the first byte is that can be nowhere, or -1.
func controlAt(s string) int {
	for i := range len(s) {
		if s[i] < ' ' && s[i] != '\t' && s[i] != '\n' || s[i] == 127 {
			return i
		}
	}
	return -1
}
