package mark

import (
	"slices"
	"strings"

	"masthead/api"
)

// Check says whether a document is valid.
func Check(doc []Node) api.Errno {
	if count(doc, api.MaxNodes) > api.MaxNodes {
		return api.ErrLarge
	}
	if isDeep(doc, 0, 0) {
		return api.ErrDeep
	}
	return checkNodes(doc, 0)
}

// count is how many nodes a document has, or some number above most, if there are more.
func count(doc []Node, most int) int {
	n := len(doc)
	for i := 0; i < len(doc) && n <= most; i++ {
		n += count(doc[i].Kids, most-n)
	}
	return n
}

func isDeep(l []Node, blocks, inlines int) bool {
	if blocks > api.MaxDeep || inlines > api.MaxDeep {
		return true
	}
	return slices.ContainsFunc(l, func(n Node) bool {
		if isInline(n.Kind) {
			return isDeep(n.Kids, blocks, inlines+1)
		}
		return isDeep(n.Kids, blocks+1, inlines)
	})
}

func checkNodes(l []Node, parent int) api.Errno {
	for _, n := range l {
		if e := checkNode(n, parent); e != api.OK {
			return e
		}
		if e := checkNodes(n.Kids, n.Kind); e != api.OK {
			return e
		}
	}
	return api.OK
}

// checkNode checks a node in a parent of some kind, but not its Kids.
func checkNode(n Node, parent int) api.Errno {
	switch {
	case !fits(n.Kind, parent):
		return api.ErrKind
	case n.Kind == Heading && (n.Level < 1 || n.Level > 6), n.Kind == List && (n.Level < -1 || n.Level > 9999):
		return api.ErrRange
	case hasUnused(n):
		return api.ErrForm
	case hasWrongByte(n):
		return api.ErrByte
	}
	return api.OK
}

// fits says whether a node of some kind can be a Kid of one of the other kind, 0 being the top of a document.
func fits(kind, parent int) bool {
	switch parent {
	case 0, Quote, Item:
		return kind >= Heading && kind <= Table && kind != Item
	case List:
		return kind == Item
	case Table:
		return kind == Row
	case Row:
		return kind == Cell
	case Heading, Para, Cell, Emph, Strong, Link:
		return isInline(kind)
	}
	return false
}

func hasUnused(n Node) bool {
	switch n.Kind {
	case Heading, List:
		n.Level, n.Kids = 0, nil
	case Para, Quote, Item, Table, Row, Cell, Emph, Strong:
		n.Kids = nil
	case Fence:
		n.Text, n.Dest = "", ""
	case Str, Code:
		n.Text = ""
	case Link:
		n.Dest, n.Title, n.Kids = "", "", nil
	case Image:
		n.Dest, n.Title, n.Text = "", "", ""
	}
	return !sameFields(n, Node{Kind: n.Kind}) || len(n.Kids) > 0
}

// hasWrongByte says whether a field that the Kind of a node uses has a byte that cannot be there.
func hasWrongByte(n Node) bool {
	if n.Kind == Fence {
		return hasControl(n.Text, "\t\n") || hasControl(n.Dest, "\t")
	}
	return hasControl(n.Text, "\t") || hasControl(n.Dest, "") || hasControl(n.Title, "\t")
}

// hasControl says whether a string has a byte below 32 that is not one of those allowed.
func hasControl(s, allowed string) bool {
	for i := range len(s) {
		if s[i] < ' ' && strings.IndexByte(allowed, s[i]) < 0 {
			return true
		}
	}
	return false
}
