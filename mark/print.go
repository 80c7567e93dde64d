package mark

import (
	"strconv"
	"strings"

	"masthead/api"
)

// Print is the string of which Parse makes a printable document.
func Print(doc []Node) (string, api.Errno) {
	if e := Check(doc); e != api.OK {
		return "", e
	}
	if !areBlocksPrintable(doc) {
		return "", api.ErrForm
	}
	if hasLongFields(doc) {
		return "", api.ErrLarge
	}
	var b strings.Builder
	for _, line := range blockLines(doc) {
		b.WriteString(line)
		b.WriteByte('\n')
	}
	if b.Len() > api.MaxBody {
		return "", api.ErrLarge
	}
	return b.String(), api.OK
}

// hasLongFields says whether the strings of a document are too long by themselves. All of them are printed, so that there is no use in printing them first.
func hasLongFields(doc []Node) bool {
	room := api.MaxBody
	walk(doc, func(n *Node) {
		for _, s := range []string{n.Text, n.Dest, n.Title} {
			if room >= 0 {
				room -= len(s)
			}
		}
	})
	return room < 0
}

func blockLines(l []Node) []string {
	var lines []string
	for i, n := range l {
		if i > 0 {
			lines = append(lines, "")
		}
		lines = append(lines, linesOf(n)...)
	}
	return lines
}

func linesOf(n Node) []string {
	switch n.Kind {
	case Heading:
		return []string{strings.Repeat("#", n.Level) + " " + printInlines(n.Kids, false)}
	case Para:
		return strings.Split(printInlines(n.Kids, true), "\n")
	case Fence:
		lines := append([]string{ticks + n.Dest}, cutLines(n.Text)...)
		return append(lines, ticks)
	case Quote:
		return indented(blockLines(n.Kids), "> ", "> ", ">")
	case List:
		return listLines(n)
	case Table:
		return tableLines(n)
	}
	return []string{"---"}
}

// indented are lines with something before the first one, before the others, and in place of those without bytes.
func indented(lines []string, first, others, empty string) []string {
	for i, line := range lines {
		switch {
		case line == "":
			lines[i] = empty
		case i == 0:
			lines[i] = first + line
		default:
			lines[i] = others + line
		}
	}
	return lines
}

func listLines(n Node) []string {
	var lines []string
	for i, item := range n.Kids {
		marker := "- "
		if n.Level >= 0 {
			marker = strconv.Itoa(min(n.Level+i, 9999)) + ". "
		}
		indent := strings.Repeat(" ", len(marker))
		lines = append(lines, indented(blockLines(item.Kids), marker, indent, "")...)
	}
	return lines
}

func tableLines(n Node) []string {
	var lines []string
	for _, row := range n.Kids {
		var cells []string
		for _, cell := range row.Kids {
			cells = append(cells, printInlines(cell.Kids, false))
		}
		lines = append(lines, "| "+strings.Join(cells, " | ")+" |")
	}
	return lines
}

func printInlines(l []Node, inPara bool) string {
	p := &printer{inPara: inPara}
	p.inlines(l)
	return string(p.out)
}

type printer struct {
	out    []byte
	inPara bool
}

func (p *printer) add(s string) { p.out = append(p.out, s...) }

func (p *printer) inlines(l []Node) {
	for _, n := range l {
		p.inline(n)
	}
}

func (p *printer) inline(n Node) {
	switch n.Kind {
	case Str:
		p.str(n.Text)
	case Soft:
		p.add("\n")
	case Hard:
		p.add("\\\n")
	case Emph:
		p.around("*", n.Kids)
	case Strong:
		p.around("**", n.Kids)
	case Code:
		p.add("`" + n.Text + "`")
	case Link:
		p.add("[")
		p.inlines(n.Kids)
		p.target(n)
	case Image:
		p.add("![")
		p.escaped(n.Text, "\\`[]")
		p.target(n)
	}
}

func (p *printer) around(stars string, l []Node) {
	p.add(stars)
	p.inlines(l)
	p.add(stars)
}

func (p *printer) target(n Node) {
	p.add("](" + n.Dest)
	if n.Title != "" {
		p.add(" \"" + n.Title + "\"")
	}
	p.add(")")
}

// str escapes what would begin a block or another inline.
func (p *printer) str(text string) {
	if p.inPara && (len(p.out) == 0 || p.out[len(p.out)-1] == '\n') {
		digits := leading(text, 4, isDigit)
		if strings.IndexByte("#>-", text[0]) >= 0 || digits > 0 && strings.HasPrefix(text[digits:], ".") {
			p.add(text[:digits] + "\\" + text[digits:digits+1])
			text = text[digits+1:]
		}
	}
	p.escaped(text, "\\`*[]!|")
}

func (p *printer) escaped(text, special string) {
	for i := range len(text) {
		if strings.IndexByte(special, text[i]) >= 0 {
			p.out = append(p.out, '\\')
		}
		p.out = append(p.out, text[i])
	}
}
