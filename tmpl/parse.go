package tmpl

import (
	"strings"

	"masthead/api"
)

// Parse reads a template. With an error it returns where that is.
func Parse(text string) ([]Node, int, api.Errno) {
	t, at, e := readTemplate(text, allFunctions())
	if e != api.OK {
		return nil, at, e
	}
	return nodes(t.parts), 0, api.OK
}

// template is one that has been read.
type template struct {
	text  string // without comments, and with bytes 0 in place of actions
	cuts  []cut
	parts []*part
}

// cut is a comment that has been left out: where it was in what is left, and its length.
type cut struct{ at, length int }

// part is a node, with where it stands in the text that is left, and what its place means for a run.
type part struct {
	Node        // without Body and Else
	at, end     int
	context     int  // of an Insert
	first       bool // an address begins with it
	body, other []*part
}

func nodes(l []*part) []Node {
	var out []Node
	for _, x := range l {
		n := x.Node
		n.Body, n.Else = nodes(x.body), nodes(x.other)
		out = append(out, n)
	}
	return out
}

// partsOf are all parts of a Kind, at all depths, in order.
func partsOf(l []*part, kind int) []*part {
	var out []*part
	for _, x := range l {
		if x.Kind == kind {
			out = append(out, x)
		}
		out = append(out, partsOf(x.body, kind)...)
		out = append(out, partsOf(x.other, kind)...)
	}
	return out
}

// original is where something stands in the text with comments.
func (t *template) original(at int) int {
	before := 0
	for _, c := range t.cuts {
		if c.at <= at {
			before += c.length
		}
	}
	return at + before
}

// readTemplate reads a template. With an error it returns where that is.
func readTemplate(text string, known functions) (*template, int, api.Errno) {
	if e := checkText(text); e != api.OK {
		return nil, 0, e
	}
	left, cuts := withoutComments(text)
	p := &parser{text: left, known: known, masked: []byte(left)}
	t := &template{cuts: cuts, parts: p.whole()}
	if p.e != api.OK {
		return nil, t.original(p.at), p.e
	}
	t.text = string(p.masked)
	return t, 0, api.OK
}

// withoutComments leaves comments out. What comes after an action without an end stays, since it is an error.
func withoutComments(text string) (string, []cut) {
	var left strings.Builder
	var cuts []cut
	for {
		from := strings.Index(text, "{{")
		if from < 0 {
			break
		}
		n := actionLength(text[from:])
		if n == 0 {
			break
		}
		left.WriteString(text[:from])
		if isComment(text[from:]) {
			cuts = append(cuts, cut{left.Len(), n})
		} else {
			left.WriteString(text[from : from+n])
		}
		text = text[from+n:]
	}
	return left.String() + text, cuts
}

// isComment says whether the action at the beginning of a string is a comment.
func isComment(s string) bool { return strings.HasPrefix(strings.TrimLeft(s[2:], blanks), "#") }

// actionLength is how long the action at the beginning of a string is, or 0, if it does not end.
func actionLength(s string) int {
	if isComment(s) {
		comment, _, ends := strings.Cut(s, "}}")
		if !ends {
			return 0
		}
		return len(comment) + 2
	}
	for i := 2; i < len(s); i++ {
		switch {
		case s[i] == '"':
			i = quotedEnd(s, i)
		case strings.HasPrefix(s[i:], "}}"):
			return i + 2
		}
	}
	return 0
}

// quotedEnd is where the string ends that begins at a byte.
func quotedEnd(s string, from int) int {
	for i := from + 1; i < len(s); i++ {
		switch s[i] {
		case '"':
			return i
		case '\\':
			i++
		}
	}
	return len(s)
}

// parser reads a text without comments, from one text or action to the next.
type parser struct {
	text   string
	known  functions
	masked []byte // the text, with bytes 0 in place of the actions that have been read
	at     int    // where that begins which has been read last, or what is wrong
	next   int    // where it ends
	isText bool
	words  string // of an action: what is between its braces
	word   string // the first one of them
	rest   string // the others
	e      api.Errno
}

// whole reads all of the text.
func (p *parser) whole() []*part {
	l := p.list(1)
	if p.closes() {
		p.e = api.ErrSyntax
	}
	return l
}

// read goes to the next text or action; it is false at the end, or if there has been an error.
func (p *parser) read() bool {
	if p.e != api.OK {
		return false
	}
	p.at, p.isText, p.words, p.word, p.rest = p.next, false, "", "", ""
	left := p.text[p.at:]
	if left == "" {
		return false
	}
	if n := strings.Index(left, "{{"); n != 0 {
		if n < 0 {
			n = len(left)
		}
		p.next += n
		p.isText = true
		return true
	}
	n := actionLength(left)
	if n == 0 {
		p.e = api.ErrSyntax
		return false
	}
	p.next += n
	clear(p.masked[p.at:p.next])
	p.words = strings.Trim(left[2:n-2], blanks)
	p.word, p.rest = cutWord(p.words)
	return true
}

// closes says whether an else or end has been read.
func (p *parser) closes() bool { return p.e == api.OK && (p.word == "else" || p.word == "end") }

// list reads what is nested so deep, up to an else or end that nothing in it has begun, or up to the end of the text.
func (p *parser) list(depth int) []*part {
	var l []*part
	for p.read() && !p.closes() {
		if p.isText {
			l = append(l, &part{Node: Node{Kind: Text, Text: p.text[p.at:p.next]}, at: p.at, end: p.next})
		} else {
			l = append(l, p.node(p.words, depth))
		}
	}
	return l
}

// node makes a node of the words of an action, and reads all that is in it.
func (p *parser) node(words string, depth int) *part {
	kind, name, expr, ok := row(words)
	x, e := readExpr(expr, p.known)
	n := &part{Node: Node{Kind: kind, Name: name, Expr: x}, at: p.at, end: p.next}
	switch {
	case !ok || e == api.ErrSyntax:
		p.e = api.ErrSyntax
	case nests(kind) && depth > api.MaxDeep:
		p.e = api.ErrDeep
	case e != api.OK:
		p.e = e
	case nests(kind):
		p.inside(n, depth)
	}
	return n
}

// nests says whether nodes of a Kind have a Body and an Else.
func nests(kind int) bool { return kind == If || kind == Each || kind == With }

// inside reads the Body of a node, its Else and its end.
func (p *parser) inside(n *part, depth int) {
	n.body = p.list(depth + 1)
	if p.closes() && p.word == "else" {
		if word, _ := cutWord(p.rest); n.Kind == If && word == "if" {
			n.other = []*part{p.node(p.rest, depth+1)}
			return // its end was that of the whole
		}
		if p.rest != "" {
			p.e = api.ErrSyntax
		}
		n.other = p.list(depth + 1)
	}
	if p.e == api.OK && p.words != "end" {
		p.e = api.ErrSyntax
	}
}

// row is what the words of an action stand for: the Kind of a node, its Name, and how its expression is written.
func row(words string) (kind int, name, expr string, ok bool) {
	word, rest := cutWord(words)
	switch word {
	case "if":
		return If, "", rest, true
	case "with":
		return With, "", rest, true
	case "each":
		name, expr, ok = named(rest, "in")
		return Each, name, expr, ok
	case "let":
		name, expr, ok = named(rest, "=")
		return Let, name, expr, ok
	case "call":
		name, expr = cutWord(rest)
		inner := strings.Trim(name, `"`)
		return Call, inner, expr, name == `"`+inner+`"` && isTemplateName(inner)
	}
	return Insert, "", words, true
}

// named is a name and an expression, which have a word between.
func named(words, between string) (name, expr string, ok bool) {
	name, rest := cutWord(words)
	word, expr := cutWord(rest)
	return name, expr, isName(name) && word == between
}
