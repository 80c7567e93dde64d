package mark

import (
	"slices"

	"masthead/api"
)

func hasTarget(n *Node) bool { return n.Kind == Link || n.Kind == Image }

// Targets are the Dests of all Links and Images of a document.
func Targets(doc []Node) ([]string, api.Errno) {
	if e := Check(doc); e != api.OK {
		return nil, e
	}
	return dests(doc), api.OK
}

func dests(doc []Node) []string {
	var l []string
	walk(doc, func(n *Node) {
		if hasTarget(n) {
			l = append(l, n.Dest)
		}
	})
	return l
}

// Relink is a document with other Dests of its Links and Images.
func Relink(doc []Node, targets []string) ([]Node, api.Errno) {
	if e := Check(doc); e != api.OK {
		return nil, e
	}
	if len(dests(doc)) != len(targets) {
		return nil, api.ErrForm
	}
	if slices.ContainsFunc(targets, func(s string) bool { return hasControl(s, "") }) {
		return nil, api.ErrByte
	}
	l := clone(doc)
	walk(l, func(n *Node) {
		if hasTarget(n) {
			n.Dest = targets[0]
			targets = targets[1:]
		}
	})
	return l, api.OK
}

// Shift is a document with other Levels of its Headings.
func Shift(doc []Node, by int) ([]Node, api.Errno) {
	if e := Check(doc); e != api.OK {
		return nil, e
	}
	if by < -5 || by > 5 {
		return nil, api.ErrRange
	}
	l := clone(doc)
	walk(l, func(n *Node) {
		if n.Kind == Heading {
			n.Level = min(max(n.Level+by, 1), 6)
		}
	})
	return l, api.OK
}
