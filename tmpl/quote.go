package tmpl

import (
	"math"
	"strconv"
	"strings"

	"masthead/api"
)

// Quote is a value as a constant of the web's script.
func Quote(v api.Value) (string, api.Errno) {
	if e := checkQuoted(v, 1); e != api.OK {
		return "", e
	}
	return quoted(v, math.MaxInt), api.OK
}

// checkQuoted says whether a value can be quoted that is nested so deep.
func checkQuoted(v api.Value, deep int) api.Errno {
	if v.Kind != api.List && v.Kind != api.Table {
		_, e := Show(v)
		return e
	}
	if deep > api.MaxDeep {
		return api.ErrDeep
	}
	for _, item := range v.Items {
		if e := checkQuoted(item, deep+1); e != api.OK {
			return e
		}
	}
	return api.OK
}

// quoted is a value that has been checked as a constant, or more than most bytes, if that has more.
func quoted(v api.Value, most int) string {
	q := &quoter{most: most}
	q.value(v)
	return string(q.out)
}

// quoter stops when it has enough: a value that a template has made of few strings can be more than memory holds.
type quoter struct {
	out  []byte
	most int
}

func (q *quoter) value(v api.Value) {
	switch v.Kind {
	case api.Nil:
		q.out = append(q.out, "null"...)
	case api.List:
		q.items('[', ']', v)
	case api.Table:
		q.items('{', '}', v)
	case api.Bool, api.Int:
		s, _ := Show(v)
		q.out = append(q.out, s...)
	default:
		s, _ := Show(v)
		q.text(s)
	}
}

// items writes the items of a list or a table.
func (q *quoter) items(begin, end byte, v api.Value) {
	q.out = append(q.out, begin)
	for i, item := range v.Items {
		if len(q.out) > q.most {
			return
		}
		if i > 0 {
			q.out = append(q.out, ',')
		}
		if v.Kind == api.Table {
			key := ""
			if i < len(v.Keys) {
				key = v.Keys[i]
			}
			q.text(key)
			q.out = append(q.out, ':')
		}
		q.value(item)
	}
	q.out = append(q.out, end)
}

// text writes a string so that neither the script nor the HTML around it can end in it.
func (q *quoter) text(s string) {
	q.out = append(q.out, '"')
	for i := range len(s) {
		switch c := s[i]; {
		case c == '"' || c == '\\':
			q.out = append(q.out, '\\', c)
		case c < ' ' || strings.IndexByte("<>&'", c) >= 0:
			q.out = append(q.out, `\u00`...)
			q.out = append(q.out, hex(c, "0123456789abcdef")...)
		default:
			q.out = append(q.out, c)
		}
	}
	q.out = append(q.out, '"')
}

// hex is a byte as two digits.
func hex(c byte, digits string) string { return string([]byte{digits[c/16], digits[c%16]}) }

// Unquote is the value that has been quoted as a string.
func Unquote(s string) (api.Value, api.Errno) {
	if len(s) > api.MaxOut {
		return api.Value{}, api.ErrLarge
	}
	u := &unquoter{rest: s}
	v := u.value(1)
	// The reader makes something of every string. It is the right value if Quote makes the same string of it, and there is none otherwise.
	if again, e := Quote(v); e != api.OK || again != s {
		return api.Value{}, api.ErrSyntax
	}
	return v, api.OK
}

// unquoter reads a constant. Where there is none it goes to the end.
type unquoter struct{ rest string }

// begins says whether the rest begins with a string, and goes over it.
func (u *unquoter) begins(s string) bool {
	rest, found := strings.CutPrefix(u.rest, s)
	u.rest = rest
	return found
}

// value reads a value that is nested so deep.
func (u *unquoter) value(deep int) api.Value {
	switch {
	case u.begins("null"):
		return api.Value{}
	case u.begins("true"):
		return truth(true)
	case u.begins("false"):
		return truth(false)
	case u.begins(`"`):
		return text(u.text())
	case deep <= api.MaxDeep && u.begins("["):
		return u.items(api.List, "]", deep)
	case deep <= api.MaxDeep && u.begins("{"):
		return u.items(api.Table, "}", deep)
	}
	return u.number()
}

// items reads the items of a list or a table, and its end.
func (u *unquoter) items(kind int, end string, deep int) api.Value {
	v := api.Value{Kind: kind}
	for u.rest != "" && !u.begins(end) {
		if len(v.Items) > 0 {
			u.begins(",")
		}
		if kind == api.Table {
			u.begins(`"`)
			v.Keys = append(v.Keys, u.text())
			u.begins(":")
		}
		v.Items = append(v.Items, u.value(deep+1))
	}
	return v
}

// text reads what comes after the first quotation mark of a string.
func (u *unquoter) text() string {
	var b strings.Builder
	for u.rest != "" && !u.begins(`"`) {
		b.WriteByte(u.byte())
	}
	return b.String()
}

// byte reads a byte, which may be escaped.
func (u *unquoter) byte() byte {
	if u.begins(`\u00`) {
		digits := u.rest[:min(2, len(u.rest))]
		u.rest = u.rest[len(digits):]
		c, _ := strconv.ParseUint(digits, 16, 8)
		return byte(c)
	}
	u.begins(`\`)
	if u.rest == "" {
		return 0
	}
	c := u.rest[0]
	u.rest = u.rest[1:]
	return c
}

func (u *unquoter) number() api.Value {
	n := 0
	for n < len(u.rest) && (u.rest[n] == '-' || isDigit(u.rest[n])) {
		n++
	}
	v, err := strconv.Atoi(u.rest[:n])
	u.rest = u.rest[n:]
	if err != nil {
		u.rest = ""
	}
	return number(v)
}
