package mark_test

import (
	"fmt"
	"strings"
	"testing"

	"masthead/api"
	"masthead/mark"
)

func kids(kind int, l ...mark.Node) mark.Node { return mark.Node{Kind: kind, Kids: l} }

func para(l ...mark.Node) mark.Node   { return kids(mark.Para, l...) }
func quote(l ...mark.Node) mark.Node  { return kids(mark.Quote, l...) }
func item(l ...mark.Node) mark.Node   { return kids(mark.Item, l...) }
func table(l ...mark.Node) mark.Node  { return kids(mark.Table, l...) }
func row(l ...mark.Node) mark.Node    { return kids(mark.Row, l...) }
func cell(l ...mark.Node) mark.Node   { return kids(mark.Cell, l...) }
func emph(l ...mark.Node) mark.Node   { return kids(mark.Emph, l...) }
func strong(l ...mark.Node) mark.Node { return kids(mark.Strong, l...) }
func rule() mark.Node                 { return mark.Node{Kind: mark.Rule} }
func soft() mark.Node                 { return mark.Node{Kind: mark.Soft} }
func hard() mark.Node                 { return mark.Node{Kind: mark.Hard} }
func str(s string) mark.Node          { return mark.Node{Kind: mark.Str, Text: s} }
func code(s string) mark.Node         { return mark.Node{Kind: mark.Code, Text: s} }

func heading(level int, l ...mark.Node) mark.Node {
	return mark.Node{Kind: mark.Heading, Level: level, Kids: l}
}

func list(level int, l ...mark.Node) mark.Node {
	return mark.Node{Kind: mark.List, Level: level, Kids: l}
}

func fence(info, text string) mark.Node {
	return mark.Node{Kind: mark.Fence, Dest: info, Text: text}
}

func link(dest, title string, l ...mark.Node) mark.Node {
	return mark.Node{Kind: mark.Link, Dest: dest, Title: title, Kids: l}
}

func image(dest, title, text string) mark.Node {
	return mark.Node{Kind: mark.Image, Dest: dest, Title: title, Text: text}
}

// text is a Para with one Str.
func text(s string) mark.Node { return para(str(s)) }

func doc(l ...mark.Node) []mark.Node { return l }

// names of the kinds, as show writes them.
var names = []string{"none", "heading", "para", "fence", "quote", "list", "item", "rule", "table", "row", "cell", "str", "soft", "hard", "emph", "strong", "code", "link", "image"}

// show writes a document as one short line: para(str"a" link<dest>{title}(str"b")).
func show(l []mark.Node) string {
	var parts []string
	for _, n := range l {
		s := fmt.Sprint("kind", n.Kind)
		if n.Kind >= 0 && n.Kind < len(names) {
			s = names[n.Kind]
		}
		if n.Level != 0 {
			s += fmt.Sprint(n.Level)
		}
		if n.Text != "" {
			s += fmt.Sprintf("%q", n.Text)
		}
		if n.Dest != "" {
			s += "<" + n.Dest + ">"
		}
		if n.Title != "" {
			s += "{" + n.Title + "}"
		}
		if len(n.Kids) > 0 {
			s += "(" + show(n.Kids) + ")"
		}
		parts = append(parts, s)
	}
	return strings.Join(parts, " ")
}

// short is the beginning of a string, for messages.
func short(s string) string {
	if len(s) > 60 {
		return fmt.Sprintf("%q.. (%d bytes)", s[:60], len(s))
	}
	return fmt.Sprintf("%q", s)
}

// parsed is a document that is known to be right.
func parsed(t *testing.T, s string) []mark.Node {
	t.Helper()
	l, e := mark.Parse(s)
	if e != api.OK {
		t.Fatalf("Parse(%s): error %d", short(s), e)
	}
	return l
}

// expectParse checks what Parse makes of strings.
func expectParse(t *testing.T, want map[string]string) {
	t.Helper()
	for s, w := range want {
		l, e := mark.Parse(s)
		if got := show(l); e != api.OK || got != w {
			t.Errorf("Parse(%q)\n got %s, error %d\nwant %s", s, got, e, w)
		}
		if e := mark.Check(l); e != api.OK {
			t.Errorf("Parse(%q) is not valid: %d", s, e)
		}
	}
}

// expectInlines checks what Inlines makes of strings, and Parse, where the lines have no blanks at their ends.
func expectInlines(t *testing.T, want map[string]string) {
	t.Helper()
	for s, w := range want {
		l, e := mark.Inlines(s)
		if got := show(l); e != api.OK || got != w {
			t.Errorf("Inlines(%q)\n got %s, error %d\nwant %s", s, got, e, w)
		}
		if e := mark.Check(doc(para(l...))); e != api.OK {
			t.Errorf("Inlines(%q) is not valid in a Para: %d", s, e)
		}
	}
}

// deep is a document with quotes around, so that it is nested by so many more.
func deep(quotes int, l ...mark.Node) []mark.Node {
	for range quotes {
		l = doc(quote(l...))
	}
	return l
}

// many are so many equal nodes.
func many(n int, x mark.Node) []mark.Node {
	l := make([]mark.Node, n)
	for i := range l {
		l[i] = x
	}
	return l
}
