package mark

import (
	"strconv"
	"strings"

	"masthead/api"
)

// Escape is a string with what means something in HTML written in another way.
func Escape(s string) string {
	var b strings.Builder
	for i := range len(s) {
		switch s[i] {
		case '&':
			b.WriteString("&amp;")
		case '<':
			b.WriteString("&lt;")
		case '>':
			b.WriteString("&gt;")
		case '"':
			b.WriteString("&quot;")
		default:
			b.WriteByte(s[i])
		}
	}
	return b.String()
}

// Unescape is the string that Escape has written.
func Unescape(s string) string {
	var b strings.Builder
	for s != "" {
		c, width := unescaped(s)
		b.WriteByte(c)
		s = s[width:]
	}
	return b.String()
}

func unescaped(s string) (c byte, width int) {
	switch {
	case strings.HasPrefix(s, "&amp;"):
		return '&', 5
	case strings.HasPrefix(s, "&lt;"):
		return '<', 4
	case strings.HasPrefix(s, "&gt;"):
		return '>', 4
	case strings.HasPrefix(s, "&quot;"):
		return '"', 6
	case strings.HasPrefix(s, "&#39;"):
		return '\'', 5
	}
	return s[0], 1
}

// HTML is a document as HTML.
func HTML(doc []Node) (string, api.Errno) {
	if e := Check(doc); e != api.OK {
		return "", e
	}
	return render(doc, uniqueIds(doc))
}

// Render is a document as HTML, with ids that are given.
func Render(doc []Node, ids []string) (string, api.Errno) {
	if e := Check(doc); e != api.OK {
		return "", e
	}
	if len(headings(doc)) != len(ids) {
		return "", api.ErrForm
	}
	return render(doc, ids)
}

// render is a valid document as HTML, with an id for each Heading.
func render(doc []Node, ids []string) (string, api.Errno) {
	w := &writer{ids: ids}
	w.blocks(doc)
	if w.full {
		return "", api.ErrLarge
	}
	return string(w.out), api.OK
}

// writer stops when it is full, so that no output is made that is refused in the end.
type writer struct {
	out  []byte
	full bool
	ids  []string // of the Headings that come
}

func (w *writer) add(s string) {
	w.full = w.full || len(s) > api.MaxOut-len(w.out)
	if !w.full {
		w.out = append(w.out, s...)
	}
}

func (w *writer) escaped(s string) {
	// Escaping makes no string shorter: what does not fit as it is need not be escaped first.
	w.full = w.full || len(s) > api.MaxOut-len(w.out)
	if !w.full {
		w.add(Escape(s))
	}
}

func (w *writer) inside(name string, content func()) {
	w.add("<" + name + ">")
	content()
	w.add("</" + name + ">")
}

// blocks writes blocks, items or rows, each with a line feed after it.
func (w *writer) blocks(l []Node) {
	for i, n := range l {
		w.block(n, i)
		w.add("\n")
	}
}

// block writes a block; number says which one it is, since the first row of a table is its head.
func (w *writer) block(n Node, number int) {
	inlines := func() { w.inlines(n.Kids) }
	blocks := func() {
		w.add("\n")
		w.blocks(n.Kids)
	}
	switch n.Kind {
	case Heading:
		w.heading(n)
	case Para:
		w.inside("p", inlines)
	case Fence:
		w.inside("pre", func() { w.fence(n) })
	case Quote:
		w.inside("blockquote", blocks)
	case List:
		w.list(n, blocks)
	case Item:
		w.inside("li", blocks)
	case Rule:
		w.add("<hr>")
	case Table:
		w.inside("table", blocks)
	case Row:
		w.inside("tr", func() { w.cells(n.Kids, number == 0) })
	}
}

func (w *writer) heading(n Node) {
	name := "h" + strconv.Itoa(n.Level)
	w.add("<" + name + " id=\"")
	w.escaped(w.ids[0])
	w.ids = w.ids[1:]
	w.add("\">")
	w.inlines(n.Kids)
	w.add("</" + name + ">")
}

func (w *writer) fence(n Node) {
	w.add("<code")
	if n.Dest != "" {
		language := n.Dest
		if i := strings.IndexAny(language, " \t"); i >= 0 {
			language = language[:i]
		}
		w.attribute("class", "language-"+language)
	}
	w.add(">")
	w.escaped(n.Text)
	w.add("</code>")
}

func (w *writer) list(n Node, items func()) {
	switch n.Level {
	case -1:
		w.inside("ul", items)
	case 1:
		w.inside("ol", items)
	default:
		w.add("<ol")
		w.attribute("start", strconv.Itoa(n.Level))
		w.add(">")
		items()
		w.add("</ol>")
	}
}

func (w *writer) cells(l []Node, head bool) {
	name := "td"
	if head {
		name = "th"
	}
	for _, n := range l {
		w.inside(name, func() { w.inlines(n.Kids) })
	}
}

func (w *writer) inlines(l []Node) {
	for _, n := range l {
		w.inline(n)
	}
}

func (w *writer) inline(n Node) {
	kids := func() { w.inlines(n.Kids) }
	switch n.Kind {
	case Str:
		w.escaped(n.Text)
	case Soft:
		w.add("\n")
	case Hard:
		w.add("<br>\n")
	case Emph:
		w.inside("em", kids)
	case Strong:
		w.inside("strong", kids)
	case Code:
		w.inside("code", func() { w.escaped(n.Text) })
	case Link:
		w.add("<a")
		w.attribute("href", safeDest(n.Dest))
		w.title(n)
		kids()
		w.add("</a>")
	case Image:
		w.add("<img")
		w.attribute("src", safeDest(n.Dest))
		w.attribute("alt", n.Text)
		w.title(n)
	}
}

func (w *writer) title(n Node) {
	if n.Title != "" {
		w.attribute("title", n.Title)
	}
	w.add(">")
}

func (w *writer) attribute(name, value string) {
	w.add(" " + name + "=\"")
	w.escaped(value)
	w.add("\"")
}

// safeDest is a Dest, or # in place of one whose scheme could do more than lead elsewhere.
func safeDest(dest string) string {
	end := strings.IndexAny(dest, ":/?#")
	if end < 0 || dest[end] != ':' {
		return dest
	}
	switch lower(dest[:end]) {
	case "http", "https", "mailto":
		return dest
	}
	return "#"
}

func lower(s string) string {
	b := []byte(s)
	for i, c := range b {
		if c >= 'A' && c <= 'Z' {
			b[i] = c + 'a' - 'A'
		}
	}
	return string(b)
}
