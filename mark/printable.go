package mark

import (
	"slices"
	"strings"

	"masthead/api"
)

// Printable says whether a document is valid, and Print has a string for it.
func Printable(doc []Node) bool {
	return Check(doc) == api.OK && areBlocksPrintable(doc)
}

// areBlocksPrintable says whether the blocks of a valid document, side by side, are printable.
func areBlocksPrintable(l []Node) bool {
	for i, n := range l {
		// Without another block between them two lists of one sort would be read as one.
		if i > 0 && n.Kind == List && l[i-1].Kind == List && (n.Level == -1) == (l[i-1].Level == -1) {
			return false
		}
		if !isBlockPrintable(n) {
			return false
		}
	}
	return true
}

func isBlockPrintable(n Node) bool {
	switch n.Kind {
	case Heading:
		return isLinePrintable(n.Kids, place{line: true})
	case Cell:
		return isLinePrintable(n.Kids, place{line: true, cell: true})
	case Para:
		return len(n.Kids) > 0 && isLinePrintable(n.Kids, place{})
	case Fence:
		return isFencePrintable(n)
	case Rule:
		return true
	}
	return len(n.Kids) > 0 && areBlocksPrintable(n.Kids)
}

func isFencePrintable(n Node) bool {
	if n.Dest != trim(n.Dest) || n.Text != "" && !strings.HasSuffix(n.Text, "\n") {
		return false
	}
	return !slices.ContainsFunc(cutLines(n.Text), func(line string) bool {
		return line != "" && trim(line) == "" || endsFence(line)
	})
}

// place says in what inlines are, at whatever depth; line: in a Heading or Cell, which have one line alone.
type place struct{ line, cell, link, emph, strong bool }

// isLinePrintable says whether all the inlines of a block are printable.
func isLinePrintable(l []Node, in place) bool {
	if len(l) > 0 {
		first, last := l[0], l[len(l)-1]
		if isBreak(first) || isBreak(last) || beginsBlank(first) || endsBlank(last) {
			return false
		}
	}
	return areInlinesPrintable(l, in)
}

func beginsBlank(n Node) bool { return n.Kind == Str && n.Text != "" && isBlank(n.Text[0]) }

func endsBlank(n Node) bool {
	return n.Kind == Str && n.Text != "" && isBlank(n.Text[len(n.Text)-1])
}

func areInlinesPrintable(l []Node, in place) bool {
	for i, n := range l {
		if i > 0 && !canFollow(l[i-1], n) || !isInlinePrintable(n, in) {
			return false
		}
	}
	return true
}

// canFollow says whether the inline b can be next to a.
func canFollow(a, b Node) bool {
	switch {
	case a.Kind == Str && b.Kind == Str, isStarred(a) && isStarred(b), isBreak(a) && isBreak(b):
		return false
	case isBreak(a):
		return !beginsBlank(b)
	case isBreak(b):
		return !endsBlank(a)
	}
	return true
}

// isInlinePrintable says whether an inline is printable in some place.
func isInlinePrintable(n Node, in place) bool {
	switch n.Kind {
	case Str:
		return n.Text != ""
	case Soft, Hard:
		return !in.line
	case Code:
		return n.Text != "" && !strings.Contains(n.Text, "`") && !(in.cell && hasBar(n))
	case Image:
		return isTargetPrintable(n, in) && !(in.link && hasBracket(n))
	}
	if len(n.Kids) == 0 || !canEnd(n, n.Kids[0]) || !canEnd(n, n.Kids[len(n.Kids)-1]) {
		return false
	}
	inner := in
	switch n.Kind {
	case Emph:
		inner.emph = true
	case Strong:
		inner.strong = true
	case Link:
		inner.link = true
	}
	// The place of what is in a node is another one, unless the node is in one of its own kind.
	return inner != in && (n.Kind != Link || isTargetPrintable(n, in)) && areInlinesPrintable(n.Kids, inner)
}

// canEnd says whether a Kid can be the first or the last one of an Emph, Strong or Link.
func canEnd(n, kid Node) bool {
	return !isBreak(kid) && !(isStarred(n) && isStarred(kid))
}

// isTargetPrintable says whether the Dest, the Title and the Text of a Link or Image are printable.
func isTargetPrintable(n Node, in place) bool {
	dest := n.Dest != "" && leading(n.Dest, len(n.Dest), isDest) == len(n.Dest)
	return dest && !strings.ContainsAny(n.Title, "\"\\") && !(in.cell && hasBar(n))
}

// hasBracket says whether the Dest or Title of an Image has a byte that changes which brackets match around it.
func hasBracket(n Node) bool {
	return strings.ContainsAny(n.Dest, "[]`") || strings.ContainsAny(n.Title, "[]`")
}

func hasBar(n Node) bool {
	return strings.Contains(n.Text, "|") || strings.Contains(n.Dest, "|") || strings.Contains(n.Title, "|")
}
