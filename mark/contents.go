package mark

import (
	"slices"
	"strconv"
	"strings"

	"masthead/api"
)

// Plain is a document without markup.
func Plain(doc []Node) (string, api.Errno) {
	if e := Check(doc); e != api.OK {
		return "", e
	}
	return plain(doc), api.OK
}

func plain(l []Node) string {
	var b strings.Builder
	addPlain(&b, l)
	return b.String()
}

// addPlain writes the plain string of nodes that are side by side.
func addPlain(b *strings.Builder, l []Node) {
	for i, n := range l {
		switch n.Kind {
		case Soft, Hard:
			b.WriteByte(' ')
		case Cell:
			if i > 0 {
				b.WriteByte('\t')
			}
		}
		b.WriteString(n.Text)
		addPlain(b, n.Kids)
		switch n.Kind {
		case Heading, Para, Fence, Row, Rule:
			b.WriteByte('\n')
		}
	}
}

// Words is how many words a document has.
func Words(doc []Node) (int, api.Errno) {
	if e := Check(doc); e != api.OK {
		return 0, e
	}
	return countWords(plain(doc)), api.OK
}

func countWords(s string) int {
	n := 0
	inWord := false
	for i := range len(s) {
		space := isBlank(s[i]) || s[i] == '\n'
		if !space && !inWord {
			n++
		}
		inWord = !space
	}
	return n
}

// Slug is a string as a part of an address.
func Slug(s string) string {
	var b []byte
	for i := range len(s) {
		c := s[i]
		switch {
		case c >= 'A' && c <= 'Z':
			b = append(b, c+'a'-'A')
		case c >= 'a' && c <= 'z', isDigit(c), c >= 128:
			b = append(b, c)
		case len(b) > 0 && b[len(b)-1] != '-':
			b = append(b, '-')
		}
	}
	return strings.TrimSuffix(string(b), "-")
}

func headings(doc []Node) []Node {
	var l []Node
	walk(doc, func(n *Node) {
		if n.Kind == Heading {
			l = append(l, *n)
		}
	})
	return l
}

// Ids are the ids of the Headings of a document.
func Ids(doc []Node) ([]string, api.Errno) {
	if e := Check(doc); e != api.OK {
		return nil, e
	}
	return uniqueIds(doc), api.OK
}

func uniqueIds(doc []Node) []string {
	var ids []string
	last := map[string]int{} // by id: the last number added to it, 1 for none
	for _, n := range headings(doc) {
		id := Slug(plain(n.Kids))
		if id == "" {
			id = "section"
		}
		if last[id] > 0 {
			id = numbered(id, last)
		}
		last[id] = 1
		ids = append(ids, id)
	}
	return ids
}

// numbered is an id with the least number that makes it another one than all before.
func numbered(id string, last map[string]int) string {
	for {
		// Ids do not go away: a number that was taken once is not tried again.
		last[id]++
		other := id + "-" + strconv.Itoa(last[id])
		if last[other] == 0 {
			return other
		}
	}
}

// Contents is the table of contents of a document.
func Contents(doc []Node) ([]Entry, api.Errno) {
	if e := Check(doc); e != api.OK {
		return nil, e
	}
	var l []Entry
	ids := uniqueIds(doc)
	for i, n := range headings(doc) {
		l = append(l, Entry{Level: n.Level, Id: ids[i], Text: plain(n.Kids)})
	}
	return l, api.OK
}

// Nested is for each entry the number of the one to which it belongs, or -1.
func Nested(l []Entry) ([]int, api.Errno) {
	var above []int
	last := [6]int{-1, -1, -1, -1, -1, -1} // by Level, less 1: the last entry of a lesser Level
	for i, entry := range l {
		if entry.Level < 1 || entry.Level > 6 {
			return nil, api.ErrRange
		}
		above = append(above, last[entry.Level-1])
		for level := entry.Level; level < len(last); level++ {
			last[level] = i
		}
	}
	return above, api.OK
}

// Section is the part of a document that begins with the Heading at the top that has an id.
func Section(doc []Node, id string) ([]Node, api.Errno) {
	if e := Check(doc); e != api.OK {
		return nil, e
	}
	ids := uniqueIds(doc)
	for i, n := range doc {
		if n.Kind == Heading && ids[0] == id {
			return clone(doc[i:sectionEnd(doc, i)]), api.OK
		}
		ids = ids[len(headings(doc[i:i+1])):]
	}
	return nil, api.ErrNone
}

func sectionEnd(doc []Node, first int) int {
	rest := slices.IndexFunc(doc[first+1:], func(n Node) bool {
		return n.Kind == Heading && n.Level <= doc[first].Level
	})
	if rest < 0 {
		return len(doc)
	}
	return first + 1 + rest
}

// Summary is the first blocks of a document, as many as have so many words, and whether anything is left out.
func Summary(doc []Node, words int) ([]Node, bool, api.Errno) {
	if e := Check(doc); e != api.OK {
		return nil, false, e
	}
	if words < 0 || words > api.MaxBody {
		return nil, false, api.ErrRange
	}
	end := 0
	for found := 0; end < len(doc) && found < words; end++ {
		found += countWords(plain(doc[end : end+1]))
	}
	return clone(doc[:end]), end < len(doc), api.OK
}
