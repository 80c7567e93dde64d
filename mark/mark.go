// Package mark has light markup: trees, printing, HTML.
package mark

const ( // kinds of blocks
	Heading = 1 // Level 1 to 6; Kids: inlines
	Para    = 2 // Kids: inlines
	Fence   = 3 // Text: its lines; Dest: its info
	Quote   = 4 // Kids: blocks
	List    = 5 // Level: the first number, or -1 for bullets; Kids: items
	Item    = 6 // Kids: blocks
	Rule    = 7
	Table   = 8  // Kids: rows
	Row     = 9  // Kids: cells
	Cell    = 10 // Kids: inlines
)
const ( // kinds of inlines
	Str    = 11 // Text
	Soft   = 12 // the end of a line
	Hard   = 13 // a line break
	Emph   = 14 // Kids: inlines
	Strong = 15 // Kids: inlines
	Code   = 16 // Text
	Link   = 17 // Dest, Title; Kids: inlines
	Image  = 18 // Dest, Title; Text: its description
)

// Node is a block or an inline. Fields that its Kind does not use are zero.
type Node struct {
	Kind, Level       int
	Text, Dest, Title string
	Kids              []Node
}

// Entry is a line of a table of contents: a Heading, its id and its plain string.
type Entry struct {
	Level    int
	Id, Text string
}

func isInline(kind int) bool { return kind >= Str && kind <= Image }

func isBreak(n Node) bool { return n.Kind == Soft || n.Kind == Hard }

func isStarred(n Node) bool { return n.Kind == Emph || n.Kind == Strong }

func isBlank(c byte) bool { return c == ' ' || c == '\t' }

func isDigit(c byte) bool { return c >= '0' && c <= '9' }

// isPunctuation says whether a backslash takes a byte's meaning away.
func isPunctuation(c byte) bool {
	return c >= 33 && c <= 47 || c >= 58 && c <= 64 || c >= 91 && c <= 96 || c >= 123 && c <= 126
}

// walk visits each node of a document, a node before its Kids.
func walk(doc []Node, visit func(n *Node)) {
	for i := range doc {
		visit(&doc[i])
		walk(doc[i].Kids, visit)
	}
}

// clone is a document in memory of its own.
func clone(doc []Node) []Node {
	if len(doc) == 0 {
		return nil
	}
	l := make([]Node, len(doc))
	for i, n := range doc {
		n.Kids = clone(n.Kids)
		l[i] = n
	}
	return l
}

// sameFields says whether two nodes are equal but for their Kids.
func sameFields(a, b Node) bool {
	return a.Kind == b.Kind && a.Level == b.Level && a.Text == b.Text && a.Dest == b.Dest && a.Title == b.Title
}

// Same says whether two documents, valid or not, are equal in all fields and Kids.
func Same(a, b []Node) bool {
	type pair struct{ a, b []Node }
	// Documents that are not valid can be nested deeper than calls can be: what is still to be compared is kept in a list.
	for left := []pair{{a, b}}; len(left) > 0; {
		p := left[len(left)-1]
		left = left[:len(left)-1]
		if len(p.a) != len(p.b) {
			return false
		}
		for i := range p.a {
			x, y := &p.a[i], &p.b[i]
			if !sameFields(*x, *y) {
				return false
			}
			if len(x.Kids) > 0 || len(y.Kids) > 0 {
				left = append(left, pair{x.Kids, y.Kids})
			}
		}
	}
	return true
}
