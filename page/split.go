package page

import (
	"iter"
	"strings"

	"masthead/api"
)

const ticks = "```"

// Split takes a body apart. With an error it returns the line where that is.
func Split(body string) ([]Part, int, api.Errno) {
	if len(body) > api.MaxBody {
		return nil, 0, api.ErrLarge
	}
	if hasControl(body) {
		return nil, 0, api.ErrByte
	}
	s := &splitter{open: []opened{{}}}
	for p := range pieces(cutLines(body)) {
		if e := s.take(p); e != api.OK {
			return nil, p.number, e
		}
	}
	if last := s.last(); len(s.open) > 1 {
		return nil, last.number, api.ErrState
	}
	return s.open[0].part.Inner, 0, api.OK
}

// hasControl says whether a body has a byte that cannot be there.
func hasControl(s string) bool {
	for i := range len(s) {
		if s[i] < ' ' && s[i] != '\t' && s[i] != '\n' {
			return true
		}
	}
	return false
}

// cutLines leaves a line feed at the end out: it ends the last line, and begins none. The empty string becomes an empty line, which is left out as others are.
func cutLines(body string) []string {
	return strings.Split(strings.TrimSuffix(body, "\n"), "\n")
}

// piece is a line of a shortcode, or what is between two such lines.
type piece struct {
	number int // of its first line
	short  bool
	text   string // the line, or the lines with a line feed after each
}

// begun is the part that begins with a piece.
func (p piece) begun() (Part, api.Errno) {
	if p.short {
		return Line(p.text)
	}
	return Part{Text: p.text}, api.OK
}

// pieces goes through the pieces of a body, without those that have empty lines alone.
func pieces(lines []string) iter.Seq[piece] {
	short := shortLines(lines)
	return func(yield func(piece) bool) {
		for to := 0; to < len(lines); {
			from := to
			p := piece{number: from, short: short[from], text: lines[from]}
			to++
			if !p.short {
				for to < len(lines) && !short[to] {
					to++
				}
				p.text = strings.Join(lines[from:to], "\n") + "\n"
			}
			if strings.Trim(p.text, " \t\n") != "" && !yield(p) {
				return
			}
		}
	}
}

// shortLines says of each line whether it is one of a shortcode: in a fence there is none.
func shortLines(lines []string) []bool {
	short := make([]bool, len(lines))
	fenced := false
	for i, line := range lines {
		switch {
		case fenced:
			fenced = strings.TrimRight(line, " \t") != ticks
		case strings.HasPrefix(line, ticks):
			fenced = true
		default:
			short[i] = strings.HasPrefix(line, opening)
		}
	}
	return short
}

// opened is a shortcode whose closing line is still to come.
type opened struct {
	part   Part
	number int // of its first line
}

// splitter puts pieces together as parts.
type splitter struct {
	open  []opened // the first one stands for the body
	parts int      // that have begun
}

func (s *splitter) last() *opened { return &s.open[len(s.open)-1] }

// take takes the next piece of a body.
func (s *splitter) take(p piece) api.Errno {
	if p.short && strings.HasPrefix(p.text, closing) {
		return s.close(p.text)
	}
	part, e := p.begun()
	switch {
	case e != api.OK:
		return e
	case part.Ends && len(s.open) > api.MaxDeep:
		return api.ErrDeep
	case s.parts == MaxParts:
		return api.ErrLarge
	}
	s.parts++
	if part.Ends {
		s.open = append(s.open, opened{part, p.number})
	} else {
		s.add(part)
	}
	return api.OK
}

// close ends the last shortcode that is open.
func (s *splitter) close(line string) api.Errno {
	name, ok := closed(line)
	last := s.last()
	switch {
	case !ok:
		return api.ErrSyntax
	case len(s.open) == 1 || last.part.Name != name:
		return api.ErrNone
	}
	s.open = s.open[:len(s.open)-1]
	s.add(last.part)
	return api.OK
}

// add adds a part that is whole to the last shortcode that is open.
func (s *splitter) add(p Part) {
	last := s.last()
	last.part.Inner = append(last.part.Inner, p)
}
