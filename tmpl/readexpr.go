package tmpl

import (
	"strconv"
	"strings"

	"masthead/api"
)

// ParseExpr reads an expression.
func ParseExpr(s string) (Expr, api.Errno) {
	if e := checkText(s); e != api.OK {
		return Expr{}, e
	}
	return readExpr(s, allFunctions())
}

// readExpr reads an expression of bytes that have been checked.
func readExpr(s string, known functions) (Expr, api.Errno) {
	r := &exprReader{text: s}
	x, ok := r.or()
	if r.skip(); !ok || r.at < len(s) {
		return Expr{}, api.ErrSyntax
	}
	e := api.OK
	for deep, y := range all(x) {
		if deep > api.MaxDeep {
			return Expr{}, api.ErrDeep
		}
		if y.Kind == Func && !known.has(y.Name, len(y.Args)) {
			e = api.ErrName // but what comes later may be too deep, which counts before this
		}
	}
	if e != api.OK {
		return Expr{}, e
	}
	return x, api.OK
}

// exprReader reads an expression, byte by byte. Each method that reads a part says whether there is one.
type exprReader struct {
	text string
	at   int
}

// skip goes over blanks.
func (r *exprReader) skip() {
	for r.at < len(r.text) && isBlank(r.text[r.at]) {
		r.at++
	}
}

// begins says whether a string follows directly, and goes over it.
func (r *exprReader) begins(s string) bool {
	if !strings.HasPrefix(r.text[r.at:], s) {
		return false
	}
	r.at += len(s)
	return true
}

// sign goes over blanks and a sign, if that follows.
func (r *exprReader) sign(s string) bool {
	r.skip()
	return r.begins(s)
}

// word goes over blanks and a word, if that follows.
func (r *exprReader) word(s string) bool {
	r.skip()
	return wordLength(r.text[r.at:]) == len(s) && r.begins(s)
}

// name is the name that follows directly, or nothing.
func (r *exprReader) name() string {
	name := r.text[r.at : r.at+wordLength(r.text[r.at:])]
	if !isName(name) {
		return ""
	}
	r.at += len(name)
	return name
}

func (r *exprReader) or() (Expr, bool) { return r.several("or", Or, r.and) }

func (r *exprReader) and() (Expr, bool) { return r.several("and", And, r.not) }

// several reads expressions with a word between, from the left.
func (r *exprReader) several(word string, kind int, one func() (Expr, bool)) (Expr, bool) {
	x, ok := one()
	for ok && r.word(word) {
		var y Expr
		y, ok = one()
		x = Expr{Kind: kind, Args: []Expr{x, y}}
	}
	return x, ok
}

func (r *exprReader) not() (Expr, bool) {
	if !r.word("not") {
		return r.cmp()
	}
	x, ok := r.not()
	return Expr{Kind: Not, Args: []Expr{x}}, ok
}

func (r *exprReader) cmp() (Expr, bool) {
	x, ok := r.term()
	if !ok {
		return Expr{}, false
	}
	for _, sign := range signs {
		if r.sign(sign) {
			y, ok := r.term()
			return Expr{Kind: Cmp, Name: sign, Args: []Expr{x, y}}, ok
		}
	}
	return x, true
}

func (r *exprReader) term() (Expr, bool) {
	x, ok := r.primary()
	for ok {
		from := r.at
		if r.begins("[") {
			var y Expr
			y, ok = r.or()
			ok = ok && r.sign("]")
			x = Expr{Kind: At, Args: []Expr{x, y}}
			continue
		}
		name := ""
		if r.begins(".") {
			name = r.name()
		}
		if name == "" {
			r.at = from
			break
		}
		x = Expr{Kind: Field, Name: name, Args: []Expr{x}}
	}
	return x, ok
}

func (r *exprReader) primary() (Expr, bool) {
	switch r.skip(); {
	case r.begins(`"`):
		s, ok := r.quoted()
		return Expr{Kind: Const, Value: api.Value{Kind: api.String, Text: s}}, ok
	case r.begins("."):
		x := Expr{Kind: Dot}
		if name := r.name(); name != "" {
			x = Expr{Kind: Field, Name: name, Args: []Expr{x}}
		}
		return x, true
	case r.begins("$"):
		name := r.name()
		return Expr{Kind: Var, Name: name}, name != ""
	case r.begins("("):
		x, ok := r.or()
		return x, ok && r.sign(")")
	case r.word("nil"):
		return Expr{Kind: Const}, true
	case r.word("true"):
		return Expr{Kind: Const, Value: truth(true)}, true
	case r.word("false"):
		return Expr{Kind: Const, Value: truth(false)}, true
	}
	if name := r.name(); name != "" {
		return r.function(name)
	}
	return r.number()
}

// function reads what comes after the name of a function.
func (r *exprReader) function(name string) (Expr, bool) {
	x := Expr{Kind: Func, Name: name}
	if !r.begins("(") {
		return Expr{}, false
	}
	for {
		y, ok := r.or()
		if !ok {
			return Expr{}, false
		}
		x.Args = append(x.Args, y)
		if !r.sign(",") {
			return x, r.sign(")")
		}
	}
}

// quoted reads what comes after the first quotation mark of a string.
func (r *exprReader) quoted() (string, bool) {
	var b strings.Builder
	for ; r.at < len(r.text); r.at++ {
		switch c := r.text[r.at]; c {
		case '"':
			r.at++
			return b.String(), true
		case '\n':
			return "", false
		case '\\':
			c, ok := r.escaped()
			if !ok {
				return "", false
			}
			b.WriteByte(c)
		default:
			b.WriteByte(c)
		}
	}
	return "", false
}

// escaped goes to the byte after a backslash, and says for what it stands.
func (r *exprReader) escaped() (byte, bool) {
	r.at++
	if r.at == len(r.text) {
		return 0, false
	}
	switch c := r.text[r.at]; c {
	case '"', '\\':
		return c, true
	case 'n':
		return '\n', true
	}
	return 0, false
}

func (r *exprReader) number() (Expr, bool) {
	from := r.at
	r.begins("-")
	for r.at < len(r.text) && isDigit(r.text[r.at]) {
		r.at++
	}
	s := r.text[from:r.at]
	n, err := strconv.Atoi(s)
	if err != nil || !isNumber(n) || strconv.Itoa(n) != s {
		return Expr{}, false
	}
	return Expr{Kind: Const, Value: number(n)}, true
}
