package ship

import (
	"cmp"
	"slices"

	"masthead/api"
)

// Faults are those of all pages.
func Faults(l []api.Out) ([]Fault, api.Errno) {
	if e := CheckOuts(l); e != api.OK {
		return nil, e
	}
	var faults []Fault
	for _, out := range l {
		if isNoPage(out) {
			continue
		}
		tokens, e := Tokens(out.Body)
		if e != api.OK {
			return nil, e
		}
		faults = append(faults, faultsOf(out.Path, tokens)...)
	}
	return faults, api.OK
}

// faultsOf are the faults of a page.
func faultsOf(path string, tokens []Token) []Fault {
	p := &inspector{path: path, tokens: tokens}
	p.images()
	p.headings()
	p.ids()
	p.nesting()
	p.title()
	p.links()
	slices.SortFunc(p.faults, func(a, b Fault) int { return cmp.Or(cmp.Compare(a.At, b.At), cmp.Compare(a.Kind, b.Kind)) })
	return p.faults
}

// inspector looks for faults of a page.
type inspector struct {
	path   string
	tokens []Token
	faults []Fault
}

func (p *inspector) add(at, kind int) {
	p.faults = append(p.faults, Fault{Path: p.path, At: at, Kind: kind})
}

func (p *inspector) images() {
	for _, t := range p.tokens {
		if _, ok := attribute(t, "alt"); !ok && opens(t, "img") {
			p.add(t.At, NoAlt)
		}
	}
}

func opens(t Token, name string) bool { return t.Kind == Open && t.Name == name }

func (p *inspector) headings() {
	before := 0
	for _, t := range p.tokens {
		level := levelOf(t)
		if level == 0 {
			continue
		}
		if level > before+1 {
			p.add(t.At, Skipped)
		}
		before = level
	}
}

// levelOf is that of a heading that is opened, or 0.
func levelOf(t Token) int {
	if t.Kind != Open || len(t.Name) != 2 || t.Name[0] != 'h' || t.Name[1] < '1' || t.Name[1] > '6' {
		return 0
	}
	return int(t.Name[1] - '0')
}

func (p *inspector) ids() {
	before := map[string]bool{}
	for _, t := range p.tokens {
		id, _ := attribute(t, "id")
		if before[id] {
			p.add(t.At, TwiceId)
		}
		before[id] = id != ""
	}
}

func (p *inspector) nesting() {
	var open []Token
	many := map[string]int{} // of those that are open, by name
	for _, t := range p.tokens {
		switch {
		case t.Kind == Open && !isVoid(t.Name):
			open = append(open, t)
			many[t.Name]++
		case t.Kind == Close && many[t.Name] == 0:
			p.add(t.At, Unopened)
		case t.Kind == Close:
			open = p.closeLast(open, many, t.Name)
		}
	}
	for _, t := range open {
		p.add(t.At, Unclosed)
	}
}

// closeLast closes the last element with a name, of which there is one, and leaves out what was opened after it.
func (p *inspector) closeLast(open []Token, many map[string]int, name string) []Token {
	for {
		last := open[len(open)-1]
		open = open[:len(open)-1]
		many[last.Name]--
		if last.Name == name {
			return open
		}
		p.add(last.At, Unclosed)
	}
}

// isVoid says whether an element has no end tag.
func isVoid(element string) bool {
	switch element {
	case "area", "base", "br", "col", "embed", "hr", "img", "input", "link", "meta", "source", "track", "wbr":
		return true
	}
	return false
}

func (p *inspector) title() {
	i := slices.IndexFunc(p.tokens, func(t Token) bool { return opens(t, "title") })
	if i < 0 || i+1 == len(p.tokens) || !isShown(p.tokens[i+1]) {
		p.add(0, NoTitle)
	}
}

// isShown says whether a token is characters that can be seen.
func isShown(t Token) bool { return t.Kind == Chars && !isBlank(t.Text) }

func (p *inspector) links() {
	var empty []int // where links are that have nothing yet, and have not been closed
	for _, t := range p.tokens {
		_, leads := attribute(t, "href")
		alt, _ := attribute(t, "alt")
		switch {
		case opens(t, "a") && leads:
			empty = append(empty, t.At)
		case isShown(t) || opens(t, "img") && alt != "":
			empty = nil
		case t.Kind == Close && t.Name == "a":
			p.addAll(empty, EmptyLink)
			empty = nil
		}
	}
	p.addAll(empty, EmptyLink)
}

func (p *inspector) addAll(at []int, kind int) {
	for _, at := range at {
		p.add(at, kind)
	}
}
