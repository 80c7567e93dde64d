package asset

import (
	"strings"

	"masthead/api"
)

// Marks of styles that need no Blank after them, or before them. Before a colon a Blank has a meaning.
const (
	tightBefore = "{};:,>"
	tightAfter  = "{};,>"
)

// TokenString joins the texts of tokens.
func TokenString(l []Token) (string, api.Errno) {
	if e := checkTokens(l); e != api.OK {
		return "", e
	}
	return joined(l), api.OK
}

func checkTokens(l []Token) api.Errno {
	if len(l) > MaxTokens {
		return api.ErrLarge
	}
	size, full := 0, false
	for _, t := range l {
		if t.Kind < Word || t.Kind > Blank || t.Text == "" || t.Kind == Blank && t.Text != " " {
			return api.ErrForm
		}
		full = full || len(t.Text) > api.MaxOut-size
		if !full {
			size += len(t.Text)
		}
	}
	if full {
		return api.ErrLarge
	}
	return api.OK
}

func joined(l []Token) string {
	var s strings.Builder
	for _, t := range l {
		s.WriteString(t.Text)
	}
	return s.String()
}

// Smaller leaves out tokens that mean nothing.
func Smaller(kind int, l []Token) ([]Token, api.Errno) {
	if kind != Style && kind != Script {
		return nil, api.ErrKind
	}
	if e := checkTokens(l); e != api.OK {
		return nil, e
	}
	return smaller(kind, l), api.OK
}

func smaller(kind int, l []Token) []Token {
	l = withoutRuns(l)
	if kind == Script {
		return without(l, func(i int) bool { return l[i].Kind == Blank && !dividesScript(l, i) })
	}
	last := lastOnes(l)
	return without(l, func(i int) bool {
		return l[i].Kind == Blank && !dividesStyle(l, i) || isMark(l[i], ";") && last[i]
	})
}

// withoutRuns leaves one Blank of those that follow each other.
func withoutRuns(l []Token) []Token {
	return without(l, func(i int) bool { return i > 0 && l[i].Kind == Blank && l[i-1].Kind == Blank })
}

// without leaves out the tokens at some positions.
func without(l []Token, needless func(i int) bool) []Token {
	var out []Token
	for i, t := range l {
		if !needless(i) {
			out = append(out, t)
		}
	}
	return out
}

// isMark says whether a token is one of some marks.
func isMark(t Token, marks string) bool {
	return t.Kind == Mark && len(t.Text) == 1 && strings.Contains(marks, t.Text)
}

// isInside says whether there are tokens before and after a position.
func isInside(l []Token, i int) bool { return i > 0 && i < len(l)-1 }

// dividesStyle says whether a style would mean something else without the Blank at a position.
func dividesStyle(l []Token, i int) bool {
	return isInside(l, i) && !isMark(l[i-1], tightBefore) && !isMark(l[i+1], tightAfter)
}

// dividesScript says the same of a script.
func dividesScript(l []Token, i int) bool {
	return isInside(l, i) && l[i-1].Kind == l[i+1].Kind && (l[i-1].Kind == Word || l[i-1].Kind == Mark)
}

// lastOnes says of each token whether only Blanks and semicolons are between it and the next closing brace, or the end.
func lastOnes(l []Token) []bool {
	ones := make([]bool, len(l))
	last := true
	for i := len(l) - 1; i >= 0; i-- {
		ones[i] = last
		last = isMark(l[i], "}") || last && (l[i].Kind == Blank || isMark(l[i], ";"))
	}
	return ones
}

// Minify makes a style or a script smaller. With an error of its tokens it returns where that is.
func Minify(kind int, s string) (string, int, api.Errno) {
	if len(s) > api.MaxBody {
		return "", 0, api.ErrLarge
	}
	if kind != Style && kind != Script {
		return "", 0, api.ErrKind
	}
	return minified(kind, s)
}

// minified is what Minify returns, of a string of any length.
func minified(kind int, s string) (string, int, api.Errno) {
	l, at, e := allTokens(kind, s)
	if e != api.OK {
		return "", at, e
	}
	return joined(smaller(kind, l)), 0, api.OK
}
