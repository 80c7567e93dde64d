package mark

import (
	"strconv"
	"strings"

	"masthead/api"
)

const ticks = "```"

// Parse reads a string as a document.
func Parse(text string) ([]Node, api.Errno) {
	if e := checkText(text); e != api.OK {
		return nil, e
	}
	r := &reader{}
	doc := r.blocks(cutLines(text), 1)
	if r.deep {
		return nil, api.ErrDeep
	}
	if count(doc, api.MaxNodes) > api.MaxNodes {
		return nil, api.ErrLarge
	}
	return doc, api.OK
}

// checkText looks for the errors that Parse and Inlines have in common.
func checkText(text string) api.Errno {
	if len(text) > api.MaxBody {
		return api.ErrLarge
	}
	if hasControl(text, "\t\n") {
		return api.ErrByte
	}
	return api.OK
}

// cutLines leaves a line feed at the end out: it ends the last line, and begins none.
func cutLines(text string) []string {
	if text == "" {
		return nil
	}
	return strings.Split(strings.TrimSuffix(text, "\n"), "\n")
}

func trim(s string) string { return strings.Trim(s, " \t") }

// leading is how many bytes at the beginning of a string, at most so many, are wanted ones.
func leading(s string, most int, wanted func(c byte) bool) int {
	for n := range most {
		if n == len(s) || !wanted(s[n]) {
			return n
		}
	}
	return most
}

// blockKind is the kind of the block that a line begins, or 0 for an empty line.
func blockKind(line string) int {
	switch {
	case trim(line) == "":
		return 0
	case headingLevel(line) > 0:
		return Heading
	case strings.HasPrefix(line, "---") && trim(line[3:]) == "":
		return Rule
	case strings.HasPrefix(line, ticks):
		return Fence
	case line[0] == '>':
		return Quote
	case markerWidth(line) > 0:
		return List
	case len(line) >= 4 && strings.HasPrefix(line, "| ") && strings.HasSuffix(line, " |"):
		return Table
	}
	return Para
}

// headingLevel is the Level of the Heading that a line is, or 0.
func headingLevel(line string) int {
	level := leading(line, 6, func(c byte) bool { return c == '#' })
	if !strings.HasPrefix(line[level:], " ") {
		return 0
	}
	return level
}

// markerWidth is how many bytes the marker of a line has, or 0 if it begins with none.
func markerWidth(line string) int {
	if strings.HasPrefix(line, "- ") {
		return 2
	}
	digits := leading(line, 4, isDigit)
	if digits == 0 || !strings.HasPrefix(line[digits:], ". ") {
		return 0
	}
	return digits + 2
}

// markerNumber is the number of the marker of a line, or -1 for a bullet.
func markerNumber(line string) int {
	digits := markerWidth(line) - 2
	if digits == 0 {
		return -1
	}
	number, _ := strconv.Atoi(line[:digits])
	return number
}

// reader reads blocks; deep says whether one was nested too deep.
type reader struct{ deep bool }

// enter only notes that a block is too deep: what Parse returns then is up to Parse.
func (r *reader) enter(depth int) { r.deep = r.deep || depth > api.MaxDeep }

func (r *reader) blocks(lines []string, depth int) []Node {
	var l []Node
	for len(lines) > 0 {
		kind := blockKind(lines[0])
		if kind == 0 {
			lines = lines[1:]
			continue
		}
		r.enter(depth)
		if r.deep {
			return nil
		}
		n, used := r.block(kind, lines, depth)
		l = append(l, n)
		lines = lines[used:]
	}
	return l
}

// block reads the block of some kind that the first line begins; used is how many lines it has.
func (r *reader) block(kind int, lines []string, depth int) (n Node, used int) {
	switch kind {
	case Heading:
		level := headingLevel(lines[0])
		return Node{Kind: Heading, Level: level, Kids: parseInlines(trim(lines[0][level:]), true)}, 1
	case Fence:
		return fence(lines)
	case Quote:
		return r.quote(lines, depth)
	case List:
		return r.list(lines, depth)
	case Table:
		return r.table(lines, depth)
	case Para:
		return para(lines)
	}
	return Node{Kind: Rule}, 1
}

func fence(lines []string) (n Node, used int) {
	n = Node{Kind: Fence, Dest: trim(lines[0][len(ticks):])}
	end := 1
	for end < len(lines) && !endsFence(lines[end]) {
		end++
	}
	if end > 1 {
		n.Text = strings.Join(lines[1:end], "\n") + "\n"
	}
	return n, min(end+1, len(lines))
}

// endsFence says whether a line is three backticks, with blanks after it or not.
func endsFence(line string) bool {
	rest, ok := strings.CutPrefix(line, ticks)
	return ok && trim(rest) == ""
}

func (r *reader) quote(lines []string, depth int) (n Node, used int) {
	var inner []string
	for _, line := range lines {
		rest, ok := strings.CutPrefix(line, ">")
		if !ok {
			break
		}
		inner = append(inner, strings.TrimPrefix(rest, " "))
	}
	return Node{Kind: Quote, Kids: r.blocks(inner, depth+1)}, len(inner)
}

func (r *reader) list(lines []string, depth int) (n Node, used int) {
	n = Node{Kind: List, Level: markerNumber(lines[0])}
	r.enter(depth + 1)
	for next := 0; next < len(lines) && sameMarker(lines[0], lines[next]); {
		inner, width := item(lines[next:])
		n.Kids = append(n.Kids, Node{Kind: Item, Kids: r.blocks(inner, depth+2)})
		used = next + width
		next = used
		for next < len(lines) && blockKind(lines[next]) == 0 {
			next++
		}
	}
	return n, used
}

// sameMarker says whether a line begins with a marker of the same sort as the first one.
func sameMarker(first, line string) bool {
	return blockKind(line) == List && (markerNumber(line) == -1) == (markerNumber(first) == -1)
}

// item is what the item that the first line begins has; used is how many lines that are.
func item(lines []string) (inner []string, used int) {
	width := markerWidth(lines[0])
	indent := strings.Repeat(" ", width)
	inner, used = append(inner, lines[0][width:]), 1
	for i := 1; i < len(lines); i++ {
		rest, ok := strings.CutPrefix(lines[i], indent)
		if trim(lines[i]) == "" {
			inner = append(inner, "")
		} else if ok {
			inner, used = append(inner, rest), i+1
		} else {
			break
		}
	}
	return inner[:used], used
}

func (r *reader) table(lines []string, depth int) (n Node, used int) {
	r.enter(depth + 2)
	n = Node{Kind: Table}
	for used < len(lines) && blockKind(lines[used]) == Table {
		n.Kids = append(n.Kids, row(lines[used]))
		used++
	}
	return n, used
}

func row(line string) Node {
	n := Node{Kind: Row}
	// The bar of a cut has a space before it, so that no backslash can be there.
	for _, cell := range strings.Split(line[2:len(line)-2], " | ") {
		n.Kids = append(n.Kids, Node{Kind: Cell, Kids: parseInlines(trim(cell), true)})
	}
	return n
}

func para(lines []string) (n Node, used int) {
	var l []string
	for used < len(lines) && blockKind(lines[used]) == Para {
		l = append(l, trim(lines[used]))
		used++
	}
	return Node{Kind: Para, Kids: parseInlines(strings.Join(l, "\n"), true)}, used
}
