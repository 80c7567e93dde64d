package page

import (
	"strings"

	"masthead/mark"
	"masthead/tmpl"
)

// around is what is before and after the Kids of a node; head says whether it is a cell of the first row.
func around(n mark.Node, id string, head bool) (before, after string) {
	switch n.Kind {
	case mark.Item:
		return "<li>\n", "</li>\n"
	case mark.Row:
		return "<tr>", "</tr>\n"
	case mark.Cell:
		if head {
			return "<th>", "</th>"
		}
		return "<td>", "</td>"
	case mark.Link:
		return "<a" + attribute("href", safeDest(n.Dest)) + title(n) + ">", "</a>"
	case mark.Image:
		return "<img" + attribute("src", safeDest(n.Dest)) + attribute("alt", n.Text) + title(n) + ">", ""
	}
	n.Kids = nil
	html := alone(n, id)
	end := strings.LastIndex(html, "</")
	if end < 0 {
		end = len(html)
	}
	return html[:end], html[end:]
}

// alone is a node as mark writes it: a block, or an inline.
func alone(n mark.Node, id string) string {
	if n.Kind == mark.Heading {
		html, _ := mark.Render([]mark.Node{n}, []string{id})
		return html
	}
	if n.Kind < mark.Str {
		html, _ := mark.HTML([]mark.Node{n})
		return html
	}
	html, _ := mark.HTML([]mark.Node{{Kind: mark.Para, Kids: []mark.Node{n}}})
	return strings.TrimSuffix(strings.TrimPrefix(html, "<p>"), "</p>\n")
}

func title(n mark.Node) string {
	if n.Title == "" {
		return ""
	}
	return attribute("title", n.Title)
}

func attribute(name, value string) string {
	return " " + name + `="` + mark.Escape(value) + `"`
}

// safeDest is a Dest, or # in place of one whose scheme could do more than lead elsewhere. It can be one that mark does not take, since it can be from a fact.
func safeDest(dest string) string {
	if tmpl.EscapeAddr(dest, true) == brokenDest {
		return brokenDest
	}
	return dest
}
