package ship

import (
	"strings"

	"masthead/api"
	"masthead/mark"
)

// Tokens is a string read as HTML. Every string has tokens, if it does not have too many.
func Tokens(html string) ([]Token, api.Errno) {
	if len(html) > api.MaxOut {
		return nil, api.ErrLarge
	}
	r := &reader{html: html}
	for r.at < len(html) {
		r.next()
		if len(r.tokens) > MaxTokens {
			return nil, api.ErrLarge
		}
	}
	return r.tokens, api.OK
}

// reader reads HTML. What does not end goes on to the end of the string.
type reader struct {
	html   string
	at     int // the byte that is read
	tokens []Token
}

// next reads a token, and what is raw after it.
func (r *reader) next() {
	t := Token{Kind: kindAt(r.html[r.at:]), At: r.at}
	switch t.Kind {
	case Chars:
		t.Text = r.chars()
	case Open:
		r.at += len("<")
		t.Name = r.name("-")
		t.Attrs = r.attributes()
	case Close:
		r.at += len("</")
		t.Name = r.name("-")
		r.through(">")
	case Comment:
		r.at += len("<!--")
		t.Text = r.through("-->")
	case Decl:
		r.at += len("<!")
		t.Text = r.through(">")
	}
	r.tokens = append(r.tokens, t)
	if t.Kind == Open && isRaw(t.Name) {
		r.raw(t.Name)
	}
}

// kindAt is the kind of the token with which a string begins.
func kindAt(s string) int {
	switch {
	case len(s) < 2 || s[0] != '<':
		return Chars
	case isLetter(s[1]):
		return Open
	case s[1] == '/' && len(s) > 2 && isLetter(s[2]):
		return Close
	case strings.HasPrefix(s, "<!--"):
		return Comment
	case s[1] == '!' || s[1] == '?':
		return Decl
	}
	return Chars
}

// chars goes over the characters before the next token of another kind.
func (r *reader) chars() string {
	from := r.at
	for r.at < len(r.html) && kindAt(r.html[r.at:]) == Chars {
		r.at++
	}
	return r.html[from:r.at]
}

// name goes over letters, digits and some others, and is these in small letters.
func (r *reader) name(others string) string {
	from := r.at
	for r.at < len(r.html) && (isAlphanumeric(r.html[r.at]) || strings.IndexByte(others, r.html[r.at]) >= 0) {
		r.at++
	}
	return lower(r.html[from:r.at])
}

// through goes over what is before an end, and over the end.
func (r *reader) through(end string) string {
	before, after, _ := strings.Cut(r.html[r.at:], end)
	r.at = len(r.html) - len(after)
	return before
}

// attributes goes over a tag after its name.
func (r *reader) attributes() []Attr {
	var l []Attr
	for r.at < len(r.html) {
		switch c := r.html[r.at]; {
		case c == '>':
			r.at++
			return l
		case isLetter(c) || c == '_' || c == ':':
			name := r.name("-_:.")
			l = append(l, Attr{Name: name, Value: mark.Unescape(r.value())})
		default:
			r.at++
		}
	}
	return l
}

// value goes over the value of an attribute, if it has one.
func (r *reader) value() string {
	rest, ok := strings.CutPrefix(r.html[r.at:], "=")
	if !ok {
		return ""
	}
	r.at++
	if strings.HasPrefix(rest, `"`) {
		r.at++
		return r.through(`"`)
	}
	if end := strings.IndexAny(rest, blanks+">"); end >= 0 {
		rest = rest[:end]
	}
	r.at += len(rest)
	return rest
}

// isRaw says whether what is in an element is not read as HTML.
func isRaw(element string) bool {
	switch element {
	case "script", "style", "title", "textarea":
		return true
	}
	return false
}

// raw goes up to the end tag of an element.
func (r *reader) raw(element string) {
	from := r.at
	for r.at < len(r.html) && !endsRaw(r.html[r.at:], element) {
		r.at++
	}
	if r.at > from {
		r.tokens = append(r.tokens, Token{Kind: Chars, At: from, Text: r.html[from:r.at]})
	}
}

// endsRaw says whether a string begins with the end tag of an element.
func endsRaw(s, element string) bool {
	rest, ok := strings.CutPrefix(s, "</")
	n := len(element)
	if !ok || len(rest) < n || lower(rest[:n]) != element {
		return false
	}
	return len(rest) == n || rest[n] != '-' && !isAlphanumeric(rest[n])
}
