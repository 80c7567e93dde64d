package lang

import (
	"strconv"
	"strings"

	"masthead/api"
)

const (
	betweenForms = "; "
	betweenAll   = " & "
	betweenSome  = " | "
)

// RuleString writes a rule.
func RuleString(r Rule) (string, api.Errno) {
	if e := checkRule(r); e != api.OK {
		return "", e
	}
	s := joinTests(r.Forms, betweenForms, testText)
	if len(s) > MaxMessage {
		return "", api.ErrLarge
	}
	return s, api.OK
}

func joinTests(l []Test, between string, text func(t Test) string) string {
	var parts []string
	for _, t := range l {
		parts = append(parts, text(t))
	}
	return strings.Join(parts, between)
}

func testText(t Test) string {
	switch t.Op {
	case All:
		return joinTests(t.Kids, betweenAll, kidText)
	case Some:
		return joinTests(t.Kids, betweenSome, testText)
	case None:
		return "!(" + joinTests(t.Kids, betweenSome, kidText) + ")"
	}
	s := "n"
	if t.Modulus != 0 {
		s += "%" + strconv.Itoa(t.Modulus)
	}
	s += "=" + strconv.Itoa(t.Low)
	if t.High != t.Low {
		s += ".." + strconv.Itoa(t.High)
	}
	return s
}

// kidText writes a Kid of an All or a None.
func kidText(t Test) string {
	if t.Op == Some {
		return "(" + testText(t) + ")"
	}
	return testText(t)
}

// ReadRule reads a rule. With an error it returns where that is.
func ReadRule(s string) (Rule, int, api.Errno) {
	if len(s) > MaxMessage {
		return Rule{}, 0, api.ErrLarge
	}
	r := &ruleReader{text: s}
	forms, ok := r.forms()
	if !ok {
		return Rule{}, r.at, api.ErrSyntax
	}
	rule := Rule{Forms: forms}
	if e := checkRule(rule); e != api.OK {
		return Rule{}, 0, e
	}
	return rule, 0, api.OK
}

// ruleReader reads a rule byte by byte. Where its methods are not ok, it stands at the byte that cannot be there.
type ruleReader struct {
	text string
	at   int
}

// sees says whether something comes next.
func (r *ruleReader) sees(s string) bool { return strings.HasPrefix(r.text[r.at:], s) }

// pass goes on behind something, which must come next.
func (r *ruleReader) pass(s string) bool {
	for i := range len(s) {
		if !r.sees(s[i : i+1]) {
			return false
		}
		r.at++
	}
	return true
}

func (r *ruleReader) forms() (l []Test, ok bool) {
	if r.text == "" {
		return nil, true
	}
	for {
		kids, ok := r.some(false)
		if !ok {
			return nil, false
		}
		l = append(l, grouped(Some, kids))
		if r.at == len(r.text) {
			return l, true
		}
		if !r.pass(betweenForms) {
			return nil, false
		}
	}
}

// grouped is a test of several ones, or the only one itself.
func grouped(op int, kids []Test) Test {
	if len(kids) == 1 {
		return kids[0]
	}
	return Test{Op: op, Kids: kids}
}

// some reads tests of which some hold. One of them may be a Some in brackets only in a None.
func (r *ruleReader) some(inNone bool) (l []Test, ok bool) {
	for {
		kids, ok := r.all()
		if !ok {
			return nil, false
		}
		if !inNone && len(kids) == 1 && kids[0].Op == Some {
			r.pass(betweenAll) // as far as that goes: another Kid is missing
			return nil, false
		}
		l = append(l, grouped(All, kids))
		if !r.sees(" ") {
			return l, true
		}
		if !r.pass(betweenSome) {
			return nil, false
		}
	}
}

// all reads tests which all hold.
func (r *ruleReader) all() (l []Test, ok bool) {
	for {
		t, ok := r.single()
		if !ok {
			return nil, false
		}
		l = append(l, t)
		if !r.sees(" &") {
			return l, true
		}
		if !r.pass(betweenAll) {
			return nil, false
		}
	}
}

// single reads a test of a number, a None, or a Some in brackets.
func (r *ruleReader) single() (t Test, ok bool) {
	switch {
	case r.sees("!"):
		if !r.pass("!(") {
			return Test{}, false
		}
		kids, ok := r.some(true)
		return Test{Op: None, Kids: kids}, ok && r.pass(")")
	case r.sees("("):
		r.at++
		kids, ok := r.some(false)
		if !ok || len(kids) == 1 {
			return Test{}, false
		}
		return Test{Op: Some, Kids: kids}, r.pass(")")
	}
	return r.within()
}

func (r *ruleReader) within() (t Test, ok bool) {
	t.Op = Within
	if !r.pass("n") {
		return Test{}, false
	}
	if r.sees("%") {
		r.at++
		if t.Modulus, ok = r.number(); !ok {
			return Test{}, false
		}
		if t.Modulus == 0 {
			t.Modulus = minModulus - 1 // as a 0 it would stand for no Modulus, which is right
		}
	}
	if !r.pass("=") {
		return Test{}, false
	}
	from := r.at
	if t.Low, ok = r.number(); !ok {
		return Test{}, false
	}
	t.High = t.Low
	low := r.text[from:r.at]
	if !r.sees(".") {
		return t, true
	}
	if !r.pass("..") {
		return Test{}, false
	}
	from = r.at
	if t.High, ok = r.number(); !ok {
		return Test{}, false
	}
	if r.text[from:r.at] == low { // digits, since numbers that are too great are read as one
		r.at = from
		return Test{}, false
	}
	return t, true
}

// number reads a number; behind a 0 it has no other digit. One above all bounds is read as the first one that is.
func (r *ruleReader) number() (n int, ok bool) {
	from := r.at
	for r.at < len(r.text) && isDigit(r.text[r.at]) && r.text[from:r.at] != "0" {
		n = min(n*10+int(r.text[r.at]-'0'), maxHigh+1)
		r.at++
	}
	return n, r.at > from
}

func isDigit(c byte) bool { return c >= '0' && c <= '9' }
