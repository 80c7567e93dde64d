package ship

import (
	"strconv"
	"strings"

	"masthead/api"
)

const maxDigits = 9

// ReadIndex is the index that IndexText has written.
func ReadIndex(text string) (Index, api.Errno) {
	if len(text) > MaxIndex {
		return Index{}, api.ErrLarge
	}
	if text != "" && !strings.HasSuffix(text, "\n") {
		return Index{}, api.ErrSyntax
	}
	var x Index
	for _, line := range linesOf(text) {
		if !x.read(line) {
			return Index{}, api.ErrSyntax
		}
	}
	if _, e := IndexText(x); e != api.OK {
		return Index{}, e
	}
	return x, api.OK
}

// read adds what a line says. It is not ok if the line is none, or of a document and after one of a term.
func (x *Index) read(line string) (ok bool) {
	if doc, ok := strings.CutPrefix(line, docStart); ok {
		return len(x.Terms) == 0 && x.readDoc(doc)
	}
	term, ok := strings.CutPrefix(line, termStart)
	return ok && x.readTerm(term)
}

func (x *Index) readDoc(s string) (ok bool) {
	address, s, _ := strings.Cut(s, " ")
	digits, title, ok := strings.Cut(s, " ")
	size, isNumber := number(digits)
	x.Docs = append(x.Docs, Doc{Address: address, Title: title})
	x.Sizes = append(x.Sizes, size)
	return ok && isNumber
}

func (x *Index) readTerm(s string) (ok bool) {
	word, s, ok := strings.Cut(s, " ")
	t := Term{Word: word}
	for ok {
		var pair string
		pair, s, ok = strings.Cut(s, " ")
		before, after, _ := strings.Cut(pair, ":")
		doc, isDoc := number(before)
		many, isMany := number(after)
		if !isDoc || !isMany {
			return false
		}
		t.Docs, t.Many = append(t.Docs, doc), append(t.Many, many)
	}
	x.Terms = append(x.Terms, t)
	return len(t.Docs) > 0
}

// number reads digits, as many as a number here can have.
func number(s string) (int, bool) {
	if s == "" || len(s) > maxDigits || s[0] == '0' && s != "0" || strings.Trim(s, "0123456789") != "" {
		return 0, false
	}
	n, _ := strconv.Atoi(s)
	return n, true
}
