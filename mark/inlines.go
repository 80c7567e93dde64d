package mark

import (
	"strings"

	"masthead/api"
)

// Inlines reads a string as inlines.
func Inlines(text string) ([]Node, api.Errno) {
	if e := checkText(text); e != api.OK {
		return nil, e
	}
	l := parseInlines(text, true)
	if count(l, api.MaxNodes) > api.MaxNodes {
		return nil, api.ErrLarge
	}
	return l, api.OK
}

// parseInlines reads a string as inlines, with Links or without them.
func parseInlines(text string, links bool) []Node {
	s := &scanner{text: text, links: links, begins: map[int]piece{}, closings: map[int]int{}, gone: map[int]bool{}}
	return s.nodes()
}

// piece is what begins at a byte of a string. Its kind is that of a node, but for the stars: Emph is one of them, Strong are two.
type piece struct {
	kind        int
	from, to    int // what is between, of a Str its bytes
	end         int // after all of it
	dest, title string
}

// literal is a piece of bytes that are put into a Str.
func literal(from, to int) piece { return piece{kind: Str, from: from, to: to, end: to} }

// scanner reads one string. What it has found is remembered: thousands of brackets or stars would else look for the same ends again and again.
type scanner struct {
	text     string
	links    bool          // can Links be made?
	begins   map[int]piece // by the byte at which it begins
	closings map[int]int   // by the byte of a bracket: that of the matching one, or -1
	gone     map[int]bool  // stars, by their kind, of which no others follow
}

func (s *scanner) nodes() []Node {
	var l []Node
	var plain []byte
	flush := func() {
		if len(plain) > 0 {
			l = append(l, Node{Kind: Str, Text: string(plain)})
			plain = nil
		}
	}
	for i := 0; i < len(s.text); {
		p := s.at(i)
		if p.kind == Emph || p.kind == Strong {
			p = s.starred(p)
		}
		i = p.end
		if p.kind == Str {
			plain = append(plain, s.text[p.from:p.to]...)
			continue
		}
		flush()
		l = append(l, s.node(p))
	}
	flush()
	return l
}

// node is the node of a piece that is no Str.
func (s *scanner) node(p piece) Node {
	inner := s.text[p.from:p.to]
	n := Node{Kind: p.kind, Dest: p.dest, Title: p.title}
	switch p.kind {
	case Emph, Strong:
		n.Kids = parseInlines(inner, s.links)
	case Link:
		n.Kids = parseInlines(inner, false)
	case Code:
		n.Text = inner
	case Image:
		n.Text = description(inner)
	}
	return n
}

// description is the Text of an Image of what is between its brackets.
func description(inner string) string {
	var b []byte
	for i := 0; i < len(inner); i++ {
		c := inner[i]
		if c == '\\' && i+1 < len(inner) && isPunctuation(inner[i+1]) {
			i++
			c = inner[i]
		} else if c == '\n' {
			c = ' '
		}
		b = append(b, c)
	}
	return string(b)
}

// at is the piece that begins at a byte.
func (s *scanner) at(i int) piece {
	p, ok := s.begins[i]
	if !ok {
		p = s.find(i)
		s.begins[i] = p
	}
	return p
}

func (s *scanner) find(i int) piece {
	rest := s.text[i:]
	switch {
	case rest[0] == '\\':
		return s.escaped(i)
	case rest[0] == '\n':
		return piece{kind: Soft, end: i + 1}
	case rest[0] == '`':
		return s.code(i)
	case strings.HasPrefix(rest, "!["):
		return s.bracketed(Image, i, i+1)
	case rest[0] == '[' && s.links:
		return s.bracketed(Link, i, i)
	case strings.HasPrefix(rest, "**"):
		return piece{kind: Strong, from: i, end: i + 2}
	case rest[0] == '*':
		return piece{kind: Emph, from: i, end: i + 1}
	}
	if n := strings.IndexAny(rest[1:], "\\\n`![*"); n >= 0 {
		return literal(i, i+1+n)
	}
	return literal(i, len(s.text))
}

func (s *scanner) escaped(i int) piece {
	if i+1 < len(s.text) && s.text[i+1] == '\n' {
		return piece{kind: Hard, end: i + 2}
	}
	if i+1 < len(s.text) && isPunctuation(s.text[i+1]) {
		return literal(i+1, i+2)
	}
	return literal(i, i+1)
}

func (s *scanner) code(i int) piece {
	n := strings.IndexAny(s.text[i+1:], "`\n")
	if n < 0 || s.text[i+1+n] == '\n' {
		return literal(i, i+1)
	}
	if n == 0 {
		return literal(i, i+2)
	}
	return piece{kind: Code, from: i + 1, to: i + 1 + n, end: i + 2 + n}
}

// bracketed is a Link or Image that begins at i, or its bytes up to its bracket at open, if it is none.
func (s *scanner) bracketed(kind, i, open int) piece {
	closing := s.closing(open)
	if closing < 0 || kind == Link && closing == open+1 {
		return literal(i, open+1)
	}
	dest, title, width := target(s.text[closing+1:])
	if width == 0 {
		return literal(i, open+1)
	}
	return piece{kind: kind, from: open + 1, to: closing, end: closing + 1 + width, dest: dest, title: title}
}

func (s *scanner) closing(open int) int {
	i, ok := s.closings[open]
	if !ok {
		i = s.findClosing(open)
		s.closings[open] = i
	}
	return i
}

func (s *scanner) findClosing(open int) int {
	for i := open + 1; i < len(s.text); {
		switch s.text[i] {
		case ']':
			return i
		case '[':
			inner := s.closing(i)
			if inner < 0 {
				return -1
			}
			i = inner + 1
		case '\\':
			i += 2
		case '`':
			i = s.at(i).end
		default:
			i++
		}
	}
	return -1
}

// target is the Dest and the Title in the parentheses at the beginning of a string; width is how many bytes they have, 0 if they are not of that form.
func target(s string) (dest, title string, width int) {
	if !strings.HasPrefix(s, "(") {
		return "", "", 0
	}
	end := 1
	for end < len(s) && isDest(s[end]) {
		end++
	}
	if end == 1 {
		return "", "", 0
	}
	if strings.HasPrefix(s[end:], ")") {
		return s[1:end], "", end + 1
	}
	rest, ok := strings.CutPrefix(s[end:], " \"")
	n := strings.IndexAny(rest, "\"\\\n")
	if !ok || n < 0 || !strings.HasPrefix(rest[n:], "\")") {
		return "", "", 0
	}
	return s[1:end], rest[:n], end + n + 4
}

// isDest says whether a byte can be in the Dest of a Link or Image.
func isDest(c byte) bool { return c > ' ' && strings.IndexByte("()\"\\", c) < 0 }

// starred is the Emph or Strong that begins with some stars, or the stars as a Str, if none does.
func (s *scanner) starred(stars piece) piece {
	to := s.nextStars(stars.kind, stars.end)
	if to <= stars.end {
		return literal(stars.from, stars.end)
	}
	return piece{kind: stars.kind, from: stars.end, to: to, end: to + stars.end - stars.from}
}

// nextStars is the byte of the next stars of a kind from i on, or -1.
func (s *scanner) nextStars(kind, i int) int {
	if s.gone[kind] {
		return -1
	}
	for i < len(s.text) {
		p := s.at(i)
		if p.kind == kind {
			return i
		}
		i = p.end
	}
	s.gone[kind] = true
	return -1
}
