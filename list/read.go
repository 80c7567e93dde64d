package list

import (
	"strings"

	"masthead/api"
	"masthead/conf"
)

// ReadCond reads a condition. With an error it returns where that is.
func ReadCond(s string) (Cond, int, api.Errno) {
	if len(s) > MaxCondText {
		return Cond{}, 0, api.ErrLarge
	}
	r := &reader{text: s}
	c, e := r.whole()
	if e != api.OK {
		return Cond{}, r.at, e
	}
	if e := CheckCond(c); e != api.OK {
		return Cond{}, 0, e
	}
	return c, 0, api.OK
}

// reader reads a condition, token by token.
type reader struct {
	text  string
	at    int // where the token begins, or where its error is
	next  int // where it ends
	token string
}

// whole reads all of the text.
func (r *reader) whole() (Cond, api.Errno) {
	if e := r.read(); e != api.OK {
		return Cond{}, e
	}
	c, e := r.or()
	if e == api.OK && r.token != "" {
		e = api.ErrSyntax
	}
	return c, e
}

func (r *reader) or() (Cond, api.Errno) { return r.several(Or, r.and) }

func (r *reader) and() (Cond, api.Errno) { return r.several(And, r.not) }

// several reads conditions with an operation between; a single one stays as it is.
func (r *reader) several(op int, one func() (Cond, api.Errno)) (Cond, api.Errno) {
	c, e := one()
	if e != api.OK || r.token != signs[op] {
		return c, e
	}
	all := Cond{Op: op, Kids: kidsFor(op, c)}
	for r.token == signs[op] {
		if e := r.read(); e != api.OK {
			return Cond{}, e
		}
		c, e := one()
		if e != api.OK {
			return Cond{}, e
		}
		all.Kids = append(all.Kids, kidsFor(op, c)...)
	}
	return all, api.OK
}

// kidsFor is what a condition adds to one with an operation: one of the same is dissolved in it.
func kidsFor(op int, c Cond) []Cond {
	if c.Op == op {
		return c.Kids
	}
	return []Cond{c}
}

func (r *reader) not() (Cond, api.Errno) {
	if r.token != signs[Not] {
		return r.single()
	}
	if e := r.read(); e != api.OK {
		return Cond{}, e
	}
	c, e := r.not()
	return Cond{Op: Not, Kids: []Cond{c}}, e
}

// single reads a condition in brackets, or one of a route.
func (r *reader) single() (Cond, api.Errno) {
	if r.token != "(" {
		return r.ofRoute()
	}
	if e := r.read(); e != api.OK {
		return Cond{}, e
	}
	c, e := r.or()
	if e != api.OK {
		return Cond{}, e
	}
	if r.token != ")" {
		return Cond{}, api.ErrSyntax
	}
	return c, r.read()
}

// ofRoute reads a route, and the operation and the value after it, if they are there.
func (r *reader) ofRoute() (Cond, api.Errno) {
	if r.token == "" || !isWordByte(r.token[0]) || operation(r.token) != 0 {
		return Cond{}, api.ErrSyntax
	}
	if !isRoute(r.token) {
		return Cond{}, api.ErrPath
	}
	c := Cond{Op: There, Route: r.token}
	if e := r.read(); e != api.OK {
		return Cond{}, e
	}
	op := operation(r.token)
	if op <= There {
		return c, api.OK
	}
	if e := r.read(); e != api.OK {
		return Cond{}, e
	}
	v, e := r.value(op)
	if e != api.OK {
		return Cond{}, e
	}
	c.Op, c.Value = op, v
	return c, r.read()
}

// value reads the value of an operation; its last token stays the one that has been read.
func (r *reader) value(op int) (api.Value, api.Errno) {
	if r.token == "[" && op == In {
		return r.list()
	}
	if r.token == "[" {
		return api.Value{}, api.ErrKind
	}
	v, e := r.scalar()
	if e == api.OK && !canHave(op, v) {
		e = api.ErrKind
	}
	return v, e
}

func (r *reader) list() (api.Value, api.Errno) {
	v, first := api.Value{Kind: api.List}, r.at
	for {
		if e := r.read(); e != api.OK {
			return api.Value{}, e
		}
		switch r.token {
		case "]":
			return v, api.OK
		case "[":
			r.at = first
			return api.Value{}, api.ErrKind
		}
		item, e := r.scalar()
		if e != api.OK {
			return api.Value{}, e
		}
		v.Items = append(v.Items, item)
	}
}

// scalar is the value for which the token alone stands.
func (r *reader) scalar() (api.Value, api.Errno) {
	if !strings.HasPrefix(r.token, `"`) && strings.Contains(r.token, ".") {
		return api.Value{}, api.ErrSyntax // words of settings have no point
	}
	v, _, e := conf.Parse("v " + r.token)
	if e != api.OK {
		return api.Value{}, e
	}
	return v.Items[0], api.OK
}

// read goes to the next token; at the end it is empty.
func (r *reader) read() api.Errno {
	for r.at = r.next; r.at < len(r.text) && strings.IndexByte(" \t\n", r.text[r.at]) >= 0; {
		r.at++
	}
	rest := r.text[r.at:]
	n := 0
	switch {
	case rest == "":
	case rest[0] < ' ':
		return api.ErrByte
	case rest[0] == '"':
		n = quotedLength(rest)
		if _, pos, e := conf.Parse("v " + rest[:n]); e != api.OK {
			r.at += pos.Column - len(`v "`)
			return e
		}
	default:
		n = plainLength(rest)
		if n == 0 {
			return api.ErrSyntax
		}
	}
	r.token, r.next = rest[:n], r.at+n
	return api.OK
}

// quotedLength is how long a string is, with its quotation marks; without an end it has the rest of its line.
func quotedLength(s string) int {
	line, _, _ := strings.Cut(s, "\n")
	for i := 1; i < len(line); i++ {
		switch line[i] {
		case '"':
			return i + 1
		case '\\':
			i++
		}
	}
	return len(line)
}

// plainLength is how long the word or the sign at the beginning of a string is, or 0.
func plainLength(s string) int {
	n := 0
	for n < len(s) && isWordByte(s[n]) {
		n++
	}
	if n > 0 {
		return n
	}
	for _, sign := range []string{"!=", "<=", ">=", "=", "<", ">", "(", ")", "[", "]"} {
		if strings.HasPrefix(s, sign) {
			return len(sign)
		}
	}
	return 0
}

func isWordByte(c byte) bool {
	return c >= 'a' && c <= 'z' || c >= 'A' && c <= 'Z' || c >= '0' && c <= '9' || c == '-' || c == '_' || c == '.' || c >= 128
}
