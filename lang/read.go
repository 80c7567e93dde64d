package lang

import (
	"strconv"
	"strings"

	"masthead/api"
)

// Words in the braces of messages.
const (
	chooseWord = "choose"
	countWord  = "count"
	otherWord  = "other"
)

// special are the bytes before which a backslash stands, if they are ordinary ones.
const special = `{}#\`

// otherForm is the Form of the Way of a Count for all other numbers.
const otherForm = MaxForms + 1

// ReadMessage reads a message. With an error it returns where that is.
func ReadMessage(s string) (Message, int, api.Errno) {
	if len(s) > MaxMessage {
		return Message{}, 0, api.ErrLarge
	}
	r := &reader{text: s}
	pieces, e := r.message(1, false)
	if e == api.OK && r.at < len(s) {
		e = api.ErrSyntax // a brace that ends nothing
	}
	if e != api.OK {
		return Message{}, r.at, e
	}
	return Message{Pieces: pieces}, 0, api.OK
}

// reader reads a message from left to right. With an error it stands where that is.
type reader struct {
	text   string
	at     int
	pieces int // so many have begun
}

// wrong is the error of what comes next, which cannot be there.
func (r *reader) wrong() api.Errno {
	if r.at < len(r.text) && isControl(r.text[r.at]) {
		return api.ErrByte
	}
	return api.ErrSyntax
}

// isControl says whether a byte cannot be in messages.
func isControl(c byte) bool { return c < ' ' && c != '\t' && c != '\n' }

// sees says whether a byte comes next.
func (r *reader) sees(c byte) bool { return r.at < len(r.text) && r.text[r.at] == c }

// message reads pieces up to a closing brace or the end. Counted says whether it is within one of a count.
func (r *reader) message(depth int, counted bool) ([]Piece, api.Errno) {
	var l []Piece
	for r.at < len(r.text) && !r.sees('}') {
		p, e := r.piece(depth, counted)
		if e != api.OK {
			return nil, e
		}
		l = append(l, p)
	}
	return l, api.OK
}

func (r *reader) piece(depth int, counted bool) (Piece, api.Errno) {
	if isControl(r.text[r.at]) {
		return Piece{}, api.ErrByte
	}
	if r.pieces == MaxPieces {
		return Piece{}, api.ErrLarge
	}
	r.pieces++
	switch {
	case r.sees('{'):
		r.at++
		return r.braces(depth, counted)
	case counted && r.sees('#'):
		r.at++
		return Piece{Kind: Hash}, api.OK
	}
	return r.plain(counted)
}

// plain reads bytes as they are.
func (r *reader) plain(counted bool) (Piece, api.Errno) {
	var s strings.Builder
	for r.at < len(r.text) && !r.sees('{') && !r.sees('}') && !(counted && r.sees('#')) {
		if isControl(r.text[r.at]) {
			return Piece{}, api.ErrByte
		}
		if r.sees('\\') {
			r.at++
			if r.at == len(r.text) || strings.IndexByte(special, r.text[r.at]) < 0 {
				return Piece{}, r.wrong()
			}
		}
		s.WriteByte(r.text[r.at])
		r.at++
	}
	return Piece{Kind: Plain, Text: s.String()}, api.OK
}

// braces reads what is between braces.
func (r *reader) braces(depth int, counted bool) (Piece, api.Errno) {
	name, e := r.token(isKey)
	if e != api.OK {
		return Piece{}, e
	}
	p := Piece{Kind: Insert, Text: name}
	r.skip()
	if r.sees('}') {
		r.at++
		return p, api.OK
	}
	if e := r.pass(','); e != api.OK {
		return Piece{}, e
	}
	word, e := r.token(func(s string) bool { return s == chooseWord || s == countWord })
	if e != api.OK {
		return Piece{}, e
	}
	if e := r.pass(','); e != api.OK {
		return Piece{}, e
	}
	p.Kind = Choose
	if word == countWord {
		p.Kind = Count
	}
	if p.Ways, e = r.ways(p.Kind, depth, counted || p.Kind == Count); e != api.OK {
		return Piece{}, e
	}
	return p, r.pass('}')
}

// skip goes on behind blanks and line feeds.
func (r *reader) skip() {
	for r.sees(' ') || r.sees('\t') || r.sees('\n') {
		r.at++
	}
}

// pass goes on behind a byte, which must come next, perhaps after blanks.
func (r *reader) pass(c byte) api.Errno {
	r.skip()
	if !r.sees(c) {
		return r.wrong()
	}
	r.at++
	return api.OK
}

// token goes on behind a token, which must come next and be right.
func (r *reader) token(right func(s string) bool) (string, api.Errno) {
	r.skip()
	end := r.at
	if r.sees('=') {
		end++
	}
	for end < len(r.text) && isWordByte(r.text[end]) {
		end++
	}
	s := r.text[r.at:end]
	if !right(s) {
		return "", r.wrong()
	}
	r.at = end
	return s, api.OK
}

func isWordByte(c byte) bool { return isLetter(c) || isDigit(c) || c == '-' || c == '_' }

// ways reads the ways of a Choose or a Count, up to the one for all others.
func (r *reader) ways(kind, depth int, counted bool) ([]Way, api.Errno) {
	var l []Way
	there := map[head]bool{}
	for {
		way, e := r.head(kind, there)
		if e != api.OK {
			return nil, e
		}
		if way.Pieces, e = r.inner(depth+1, counted); e != api.OK {
			return nil, e
		}
		l = append(l, way)
		if isOther(kind, way) {
			return l, api.OK
		}
	}
}

// inner reads a message in braces.
func (r *reader) inner(depth int, counted bool) ([]Piece, api.Errno) {
	r.skip()
	if r.sees('{') && depth > api.MaxDeep {
		return nil, api.ErrDeep
	}
	if e := r.pass('{'); e != api.OK {
		return nil, e
	}
	l, e := r.message(depth, counted)
	if e != api.OK {
		return nil, e
	}
	return l, r.pass('}')
}

// head reads what is before the message of a way. There are the ones of the ways before it.
func (r *reader) head(kind int, there map[head]bool) (Way, api.Errno) {
	right := isCountWord
	if kind == Choose {
		right = func(s string) bool { return isWord(s) || s == otherWord && len(there) > 0 }
	}
	r.skip()
	from := r.at
	s, e := r.token(right)
	if e != api.OK {
		return Way{}, e
	}
	way, e := wayOf(kind, s)
	if e == api.OK && there[headOf(way)] {
		e = api.ErrTwice
	}
	if e != api.OK {
		r.at = from
		return Way{}, e
	}
	there[headOf(way)] = true
	return way, api.OK
}

// head is what is before the message of a way.
type head struct {
	word        string
	exact, form int
}

func headOf(w Way) head { return head{word: w.Word, exact: w.Exact, form: w.Form} }

// isOther says whether a way is the one for all others.
func isOther(kind int, w Way) bool {
	if kind == Choose {
		return w.Word == ""
	}
	return w.Form == otherForm
}

// isWord says whether a string can be before a message of a choose, but for `other`.
func isWord(s string) bool {
	for i := range len(s) {
		if !isWordByte(s[i]) {
			return false
		}
	}
	return s != "" && s != otherWord
}

// isCountWord says whether a string can be before a message of a count.
func isCountWord(s string) bool {
	if number, ok := strings.CutPrefix(s, "="); ok {
		return isInteger(number)
	}
	return s == otherWord || len(s) == 1 && s[0] >= '0' && s[0] <= '0'+MaxForms
}

func isInteger(s string) bool {
	digits := strings.TrimPrefix(s, "-")
	for i := range len(digits) {
		if !isDigit(digits[i]) {
			return false
		}
	}
	return s == "0" || digits != "" && digits[0] != '0'
}

// wayOf is a way without its message, of what is before that, which is right.
func wayOf(kind int, s string) (Way, api.Errno) {
	switch number, exact := strings.CutPrefix(s, "="); {
	case kind == Choose && s != otherWord:
		return Way{Word: s}, api.OK
	case kind == Choose:
		return Way{}, api.OK
	case s == otherWord:
		return Way{Form: otherForm}, api.OK
	case exact:
		n, err := strconv.Atoi(number)
		if err != nil {
			return Way{}, api.ErrRange
		}
		return Way{Exact: n, Form: -1}, api.OK
	}
	return Way{Form: int(s[0] - '0')}, api.OK
}
