package tmpl

import (
	"iter"
	"strconv"
	"strings"

	"masthead/api"
)

// maxNumber is the greatest number of templates; the least one is -maxNumber.
const maxNumber = 999_999_999_999_999

// signs are the comparisons; one that begins with another one comes before it.
var signs = [...]string{"==", "!=", "<=", "<", ">=", ">"}

func isSign(s string) bool {
	for _, sign := range signs {
		if s == sign {
			return true
		}
	}
	return false
}

// all goes through an expression, a node before its arguments, with how deep each one is. It calls nothing for what is nested, since that can be deeper than calls can be.
func all(x Expr) iter.Seq2[int, Expr] {
	return func(yield func(int, Expr) bool) {
		for left := [][]Expr{{x}}; len(left) > 0; {
			top := len(left) - 1
			if len(left[top]) == 0 {
				left = left[:top]
				continue
			}
			y := left[top][0]
			left[top] = left[top][1:]
			if !yield(top+1, y) {
				return
			}
			left = append(left, y.Args)
		}
	}
}

// checkExpr says whether an expression can be printed, and so evaluated.
func checkExpr(x Expr, known functions) api.Errno {
	deepest := 0
	for deep, y := range all(x) {
		if e := checkOne(y, known); e != api.OK {
			return e
		}
		deepest = max(deepest, deep)
	}
	if deepest > api.MaxDeep {
		return api.ErrDeep
	}
	return api.OK
}

// checkOne checks an expression, but not its arguments.
func checkOne(x Expr, known functions) api.Errno {
	switch {
	case x.Kind < Const || x.Kind > Cmp:
		return api.ErrKind
	case !hasName(x) || !hasValue(x) || !hasArgs(x):
		return api.ErrForm
	case hasControl(x.Value.Text):
		return api.ErrByte
	case x.Kind == Func && !known.has(x.Name, len(x.Args)):
		return api.ErrName
	}
	return api.OK
}

// hasName says whether the Name of an expression is one for its Kind.
func hasName(x Expr) bool {
	switch x.Kind {
	case Var, Field, Func:
		return isName(x.Name)
	case Cmp:
		return isSign(x.Name)
	}
	return x.Name == ""
}

// hasValue says whether the Value of an expression is one for its Kind.
func hasValue(x Expr) bool {
	v := x.Value
	if x.Kind == Const {
		switch v.Kind {
		case api.Bool:
			v.Bool = false
		case api.Int:
			if !isNumber(v.Int) {
				return false
			}
			v.Int = 0
		case api.String:
			v.Text = ""
		case api.Nil:
		default:
			return false
		}
		v.Kind = api.Nil
	}
	return isZero(v)
}

// hasArgs says whether an expression has as many arguments as its Kind needs: of a Func one or more, since how many its function needs is a question of its own.
func hasArgs(x Expr) bool {
	switch x.Kind {
	case Field, Not:
		return len(x.Args) == 1
	case At, And, Or, Cmp:
		return len(x.Args) == 2
	case Func:
		return len(x.Args) > 0
	}
	return len(x.Args) == 0
}

func isNumber(n int) bool { return n >= -maxNumber && n <= maxNumber }

func isZero(v api.Value) bool {
	return v.Kind == api.Nil && !v.Bool && v.Int == 0 && v.Text == "" && len(v.Items) == 0 && len(v.Keys) == 0
}

// PrintExpr writes an expression.
func PrintExpr(x Expr) (string, api.Errno) {
	if e := checkExpr(x, allFunctions()); e != api.OK {
		return "", e
	}
	return exprText(x), api.OK
}

// How tightly expressions hold together; a term is what needs no brackets anywhere.
const (
	orTightness = iota
	andTightness
	notTightness
	cmpTightness
	termTightness
)

func tightness(x Expr) int {
	switch x.Kind {
	case Or:
		return orTightness
	case And:
		return andTightness
	case Not:
		return notTightness
	case Cmp:
		return cmpTightness
	}
	return termTightness
}

// exprText writes an expression that has been checked.
func exprText(x Expr) string {
	switch x.Kind {
	case Const:
		return constText(x.Value)
	case Dot:
		return "."
	case Var:
		return "$" + x.Name
	case Field:
		if x.Args[0].Kind == Dot {
			return "." + x.Name
		}
		return argText(x.Args[0], termTightness) + "." + x.Name
	case At:
		return argText(x.Args[0], termTightness) + "[" + exprText(x.Args[1]) + "]"
	case Func:
		var args []string
		for _, arg := range x.Args {
			args = append(args, exprText(arg))
		}
		return x.Name + "(" + strings.Join(args, ", ") + ")"
	case Not:
		return "not " + argText(x.Args[0], notTightness)
	case And:
		return argText(x.Args[0], andTightness) + " and " + argText(x.Args[1], notTightness)
	case Or:
		return argText(x.Args[0], orTightness) + " or " + argText(x.Args[1], andTightness)
	}
	return argText(x.Args[0], termTightness) + " " + x.Name + " " + argText(x.Args[1], termTightness)
}

// argText writes an argument where something must be so tight, or have brackets.
func argText(x Expr, least int) string {
	if tightness(x) < least {
		return "(" + exprText(x) + ")"
	}
	return exprText(x)
}

// constText writes a constant.
func constText(v api.Value) string {
	switch v.Kind {
	case api.Bool:
		return strconv.FormatBool(v.Bool)
	case api.Int:
		return strconv.Itoa(v.Int)
	case api.String:
		var b strings.Builder
		b.WriteByte('"')
		for i := range len(v.Text) {
			switch c := v.Text[i]; c {
			case '\n':
				b.WriteString(`\n`)
			case '"', '\\':
				b.WriteByte('\\')
				b.WriteByte(c)
			default:
				b.WriteByte(c)
			}
		}
		b.WriteByte('"')
		return b.String()
	}
	return "nil"
}
