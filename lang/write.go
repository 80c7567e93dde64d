package lang

import (
	"cmp"
	"strconv"
	"strings"

	"masthead/api"
)

// MessageString writes a message.
func MessageString(m Message) (string, api.Errno) {
	if e := checkPieces(m); e != api.OK {
		return "", e
	}
	s := &limited{most: MaxMessage}
	writePieces(s, m.Pieces)
	if s.full {
		return "", api.ErrLarge
	}
	return string(s.bytes), api.OK
}

// limited is at most so many bytes. It is full, if more should be added.
type limited struct {
	bytes []byte
	most  int
	full  bool
}

func (l *limited) add(s string) {
	l.full = l.full || len(s) > l.most-len(l.bytes)
	if !l.full {
		l.bytes = append(l.bytes, s...)
	}
}

// part is a piece as what it is: it can write itself.
type part interface{ write(s *limited) }

type (
	plain  string // bytes
	insert string // the name of an argument
	choose Piece
	count  Piece
	hash   struct{}
)

// partOf is a piece as what it is.
func partOf(p Piece) part {
	switch p.Kind {
	case Insert:
		return insert(p.Text)
	case Choose:
		return choose(p)
	case Count:
		return count(p)
	case Hash:
		return hash{}
	}
	return plain(p.Text)
}

func writePieces(s *limited, l []Piece) {
	for _, p := range l {
		partOf(p).write(s)
	}
}

func (p plain) write(s *limited) {
	for i := 0; i < len(p) && !s.full; i++ {
		if strings.IndexByte(special, p[i]) >= 0 {
			s.add(`\`)
		}
		s.add(string(p[i : i+1]))
	}
}

func (p insert) write(s *limited) { s.add("{" + string(p) + "}") }

func (p hash) write(s *limited) { s.add("#") }

func (p choose) write(s *limited) {
	writeWays(s, p.Text, chooseWord, p.Ways, func(w Way) string { return w.Word })
}

func (p count) write(s *limited) {
	writeWays(s, p.Text, countWord, p.Ways, func(w Way) string {
		switch {
		case w.Form < 0:
			return "=" + strconv.Itoa(w.Exact)
		case w.Form == otherForm:
			return ""
		}
		return strconv.Itoa(w.Form)
	})
}

// writeWays writes what is in braces. The word before the message for all others is empty.
func writeWays(s *limited, name, kind string, ways []Way, word func(w Way) string) {
	s.add("{" + name + ", " + kind + ",")
	for _, w := range ways {
		if s.full {
			return
		}
		s.add(" " + cmp.Or(word(w), otherWord) + " {")
		writePieces(s, w.Pieces)
		s.add("}")
	}
	s.add("}")
}
