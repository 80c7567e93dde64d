package conf

import (
	"strings"

	"masthead/api"
)

// Kinds of tokens; those of others are their first bytes.
const (
	endToken  = 0
	wordToken = 'w'
)

// tokens reads a string in the language of settings, token by token.
type tokens struct {
	text string
	at   int // where the token begins, or where its error is
	next int // where it ends
	kind byte
	word string // of a word its bytes, of a string what it stands for
}

// read goes to the next token. Within a list a line feed is none.
func (t *tokens) read(inList bool) api.Errno {
	if e := t.skip(inList); e != api.OK {
		return e
	}
	rest := t.text[t.at:]
	t.kind, t.word = endToken, ""
	switch {
	case rest == "":
	case rest[0] == '"':
		return t.quoted()
	case isWordByte(rest[0]):
		t.readWord(rest)
	default:
		t.kind, t.next = rest[0], t.at+1
	}
	return api.OK
}

// skip goes to where the next token begins.
func (t *tokens) skip(inList bool) api.Errno {
	inComment := false
	for t.at = t.next; t.at < len(t.text); t.at++ {
		c := t.text[t.at]
		switch {
		case isControl(c):
			return api.ErrByte
		case c == '\n' && !inList:
			return api.OK
		case c == '\n':
			inComment = false
		case inComment, c == ' ', c == '\t':
		case c == '#':
			inComment = true
		case isWordByte(c), strings.IndexByte("\"[]{};", c) >= 0:
			return api.OK
		default:
			return api.ErrSyntax
		}
	}
	return api.OK
}

func isWordByte(c byte) bool {
	return isSmall(c) || c >= 'A' && c <= 'Z' || isDigit(c) || c == '-' || c == '_' || c >= 128
}

func (t *tokens) readWord(rest string) {
	n := 0
	for n < len(rest) && isWordByte(rest[n]) {
		n++
	}
	t.kind, t.word, t.next = wordToken, rest[:n], t.at+n
}

// quoted reads a string.
func (t *tokens) quoted() api.Errno {
	inner, ok := untilQuote(t.text[t.at+1:])
	if !ok {
		return api.ErrSyntax
	}
	first := t.at + 1
	var b []byte
	for i := 0; i < len(inner); i++ {
		c := inner[i]
		if isControl(c) {
			t.at = first + i
			return api.ErrByte
		}
		if c == '\\' {
			c = meaning(inner[i+1])
			if c == 0 {
				t.at = first + i
				return api.ErrSyntax
			}
			i++
		}
		b = append(b, c)
	}
	t.kind, t.word, t.next = '"', string(b), first+len(inner)+1
	return api.OK
}

// untilQuote is what is before the quotation mark that ends a string, if its line has one.
func untilQuote(s string) (inner string, ok bool) {
	line, _, _ := strings.Cut(s, "\n")
	for i := 0; i < len(line); i++ {
		switch line[i] {
		case '"':
			return line[:i], true
		case '\\':
			i++
		}
	}
	return "", false
}

// meaning is what a byte after a backslash stands for, or 0.
func meaning(c byte) byte {
	switch c {
	case 'n':
		return '\n'
	case 't':
		return '\t'
	case '"', '\\':
		return c
	}
	return 0
}

// pos is the position of the byte at.
func (t *tokens) pos() Pos {
	before := t.text[:t.at]
	return Pos{Line: strings.Count(before, "\n") + 1, Column: t.at - strings.LastIndexByte(before, '\n')}
}
