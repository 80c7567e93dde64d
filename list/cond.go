package list

import (
	"strings"

	"masthead/api"
	"masthead/conf"
)

// signs are how operations are written; those that are words are no routes.
var signs = []string{And: "and", Or: "or", Not: "not", Equal: "=", Unlike: "!=", Below: "<", AtMost: "<=", Above: ">", AtLeast: ">=", Has: "has", In: "in", Begins: "begins"}

// operation is the one that is written as a sign, or 0.
func operation(sign string) int {
	for op, s := range signs {
		if s == sign {
			return op
		}
	}
	return 0
}

// CheckCond says whether a condition is one.
func CheckCond(c Cond) api.Errno {
	return checkNested(c, kidsOf, MaxCond, MaxLevels, checkOne)
}

func kidsOf(c Cond) []Cond { return c.Kids }

// checkOne checks a condition, but not its Kids.
func checkOne(c Cond) api.Errno {
	if c.Op < And || c.Op > Begins || !kidsFit(c) || !fieldsFit(c) {
		return api.ErrForm
	}
	if c.Op <= Not {
		return api.OK
	}
	if c.Route == "" || operation(c.Route) != 0 || !isRoute(c.Route) {
		return api.ErrPath
	}
	if e := conf.Check(c.Value); e != api.OK {
		return e
	}
	if !canHave(c.Op, c.Value) {
		return api.ErrKind
	}
	return api.OK
}

// kidsFit says whether a condition has as many Kids as its Op needs, and of the right ones.
func kidsFit(c Cond) bool {
	switch c.Op {
	case And, Or:
		for _, kid := range c.Kids {
			if kid.Op == c.Op {
				return false
			}
		}
		return len(c.Kids) >= 2
	case Not:
		return len(c.Kids) == 1
	}
	return len(c.Kids) == 0
}

// fieldsFit says whether the Route and the Value are zero where the Op does not use them.
func fieldsFit(c Cond) bool {
	if c.Op <= Not && c.Route != "" {
		return false
	}
	return c.Op > There || conf.Compare(c.Value, api.Value{}) == 0
}

// canHave says whether a value of settings can be that of an operation.
func canHave(op int, v api.Value) bool {
	switch op {
	case In:
		for _, item := range v.Items {
			if isNest(item) {
				return false
			}
		}
		return v.Kind == api.List
	case Begins:
		return v.Kind == api.String
	}
	return !isNest(v)
}

// isNest says whether a value is of a Kind that has Items.
func isNest(v api.Value) bool { return v.Kind == api.List || v.Kind == api.Table }

// CondString writes a condition.
func CondString(c Cond) (string, api.Errno) {
	if e := CheckCond(c); e != api.OK {
		return "", e
	}
	s := condText(c)
	if len(s) > MaxCondText {
		return "", api.ErrLarge
	}
	return s, api.OK
}

func condText(c Cond) string {
	switch c.Op {
	case And, Or:
		var kids []string
		for _, kid := range c.Kids {
			kids = append(kids, kidText(c.Op, kid))
		}
		return strings.Join(kids, " "+signs[c.Op]+" ")
	case Not:
		return "not " + kidText(Not, c.Kids[0])
	case There:
		return c.Route
	}
	return c.Route + " " + signs[c.Op] + " " + valueText(c.Value)
}

// kidText writes a Kid of a condition, in brackets where it needs them.
func kidText(op int, kid Cond) string {
	s := condText(kid)
	if kid.Op == Or || kid.Op == And && op == Not {
		return "(" + s + ")"
	}
	return s
}

// valueText writes a value in one line.
func valueText(v api.Value) string {
	if v.Kind != api.List {
		line, _ := conf.Print(api.Value{Kind: api.Table, Keys: []string{"v"}, Items: []api.Value{v}})
		return strings.TrimSuffix(strings.TrimPrefix(line, "v "), "\n")
	}
	var items []string
	for _, item := range v.Items {
		items = append(items, valueText(item))
	}
	return "[" + strings.Join(items, " ") + "]"
}
