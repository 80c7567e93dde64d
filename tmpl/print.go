package tmpl

import (
	"strings"

	"masthead/api"
)

// Print writes a template.
func Print(l []Node) (string, api.Errno) {
	if e := checkNodes(l, allFunctions()); e != api.OK {
		return "", e
	}
	p := &printer{}
	p.nodes(l)
	s := p.b.String()
	if _, _, e := Parse(s); e != api.OK { // also ErrLarge
		return "", e
	}
	return s, api.OK
}

// checkNodes checks nodes, one before its Body. It calls nothing for what is nested, since that can be deeper than calls can be.
func checkNodes(l []Node, known functions) api.Errno {
	for left := [][]Node{l}; len(left) > 0; {
		top := len(left) - 1
		if len(left[top]) == 0 {
			left = left[:top]
			continue
		}
		n := &left[top][0]
		left[top] = left[top][1:]
		if e := checkNode(n, left[top], top > 0, known); e != api.OK {
			return e
		}
		left = append(left, n.Else, n.Body)
	}
	return api.OK
}

// checkNode checks a node that has others after it, but not what is in it.
func checkNode(n *Node, after []Node, nested bool, known functions) api.Errno {
	switch {
	case n.Kind < Text || n.Kind > Call:
		return api.ErrKind
	case !hasFields(n) || n.Kind == Text && !standsBefore(n.Text, after, nested):
		return api.ErrForm
	case n.Kind == Text:
		return api.OK
	}
	return checkExpr(n.Expr, known)
}

// hasFields says whether a node has the Name that its Kind needs, and nothing that it does not use.
func hasFields(n *Node) bool {
	switch n.Kind {
	case Each, Let:
		if !isName(n.Name) {
			return false
		}
	case Call:
		if !isTemplateName(n.Name) {
			return false
		}
	default:
		if n.Name != "" {
			return false
		}
	}
	if n.Kind == Text {
		x := n.Expr
		return len(n.Body)+len(n.Else) == 0 && x.Kind == 0 && x.Name == "" && isZero(x.Value) && len(x.Args) == 0
	}
	return n.Text == "" && (nests(n.Kind) || len(n.Body)+len(n.Else) == 0)
}

// standsBefore says whether a Text is read again as it is, with other nodes, or the end of a Body or Else, after it.
func standsBefore(s string, after []Node, nested bool) bool {
	if s == "" || strings.Contains(s, "{{") || len(after) > 0 && after[0].Kind == Text {
		return false
	}
	action := nested
	if len(after) > 0 {
		action = after[0].Kind >= Insert && after[0].Kind <= Call
	}
	return !action || !strings.HasSuffix(s, "{")
}

// printer writes nodes, up to the first ones that are too much.
type printer struct{ b strings.Builder }

func (p *printer) nodes(l []Node) {
	for _, n := range l {
		if p.b.Len() > MaxText {
			return
		}
		p.node(n)
	}
}

func (p *printer) node(n Node) {
	switch n.Kind {
	case Text:
		p.b.WriteString(n.Text)
	case Insert:
		p.action("", n)
	case If:
		p.action("if ", n)
		p.inside(n)
	case Each:
		p.action("each "+n.Name+" in ", n)
		p.inside(n)
	case With:
		p.action("with ", n)
		p.inside(n)
	case Let:
		p.action("let "+n.Name+" = ", n)
	case Call:
		p.action(`call "`+n.Name+`" `, n)
	}
}

// action writes words and the expression of a node.
func (p *printer) action(words string, n Node) {
	p.b.WriteString("{{ " + words + exprText(n.Expr) + " }}")
}

// inside writes the Body, the Else and the end of a node.
func (p *printer) inside(n Node) {
	p.nodes(n.Body)
	for n.Kind == If && len(n.Else) == 1 && n.Else[0].Kind == If && p.b.Len() <= MaxText {
		n = n.Else[0]
		p.action("else if ", n)
		p.nodes(n.Body)
	}
	if len(n.Else) > 0 {
		p.b.WriteString("{{ else }}")
		p.nodes(n.Else)
	}
	p.b.WriteString("{{ end }}")
}
