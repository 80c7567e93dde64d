package tmpl

import (
	"strings"

	"masthead/api"
	"masthead/conf"
	"masthead/mark"
)

// function is a function of templates.
type function struct {
	takes string                           // a letter for each argument, as fits has them
	call  func(args []api.Value) api.Value // throws an error
}

// functions are functions by their names.
type functions map[string]function

// has says whether there is a function that takes so many arguments.
func (l functions) has(name string, args int) bool {
	f, ok := l[name]
	return ok && len(f.takes) == args
}

func allFunctions() functions {
	return functions{
		"len":     {"m", length},
		"upper":   {"s", changed(upper)},
		"lower":   {"s", changed(lower)},
		"trim":    {"s", changed(trimmed)},
		"slug":    {"s", changed(mark.Slug)},
		"plain":   {"s", plain},
		"default": {"aa", firstTrue},
		"join":    {"ls", join},
		"split":   {"ss", split},
		"replace": {"sss", replace},
		"first":   {"li", first},
		"last":    {"li", last},
		"reverse": {"l", reverse},
		"sort":    {"ls", sorted},
		"where":   {"lsv", where},
		"has":     {"lv", has},
		"keys":    {"t", keys},
		"add":     {"ii", reckoned(func(a, b int) int { return a + b })},
		"sub":     {"ii", reckoned(func(a, b int) int { return a - b })},
		"mul":     {"ii", reckoned(product)},
		"div":     {"ii", reckoned(quotient)},
		"mod":     {"ii", reckoned(remainder)},
		"string":  {"v", func(args []api.Value) api.Value { return text(shown(args[0])) }},
		"year":    {"d", dated(func(year, _, _ int) int { return year })},
		"month":   {"d", dated(func(_, month, _ int) int { return month })},
		"day":     {"d", dated(func(_, _, day int) int { return day })},
		"list":    {"aa", listed},
		"fact":    {"-", nil}, // a run knows what it is: here no value fits, and nothing is called
	}
}

// fits says whether a value can be an argument for which a letter stands.
func fits(letter byte, v api.Value) bool {
	switch letter {
	case 's':
		return isText(v)
	case 'i':
		return v.Kind == api.Int
	case 'd':
		return v.Kind == api.Day
	case 'l':
		return v.Kind == api.List
	case 't':
		return v.Kind == api.Table
	case 'm': // has a length
		return isText(v) || v.Kind == api.List || v.Kind == api.Table
	case 'v': // a value
		return v.Kind != api.Fact
	}
	return letter == 'a' // all
}

// Apply is what a function makes of its arguments.
func Apply(name string, args []api.Value) (api.Value, api.Errno) {
	var v api.Value
	e := caught(func() { v = clone(allFunctions().apply(name, args)) })
	return v, e
}

// apply is what a function makes of its arguments; its lists can be theirs.
func (l functions) apply(name string, args []api.Value) api.Value {
	demand(l.has(name, len(args)), api.ErrName)
	f := l[name]
	for i, v := range args {
		demand(fits(f.takes[i], v), api.ErrKind)
	}
	v := f.call(args)
	demand(!isText(v) || len(v.Text) <= api.MaxOut, api.ErrLarge)
	demand(v.Kind != api.List || !hasMore(v, MaxItems), api.ErrLarge)
	return v
}

// caught calls a function, and returns the error that it throws.
func caught(call func()) (e api.Errno) {
	defer func() {
		thrown := recover()
		if thrown == nil {
			return
		}
		failure, ok := thrown.(api.Errno)
		if !ok {
			panic(thrown) // a mistake of the program itself is not hidden as an error of a template
		}
		e = failure
	}()
	call()
	return api.OK
}

// demand throws an error if something is not so.
func demand(so bool, e api.Errno) {
	if !so {
		panic(e)
	}
}

// shown is a value as a string; it throws an error.
func shown(v api.Value) string {
	s, e := Show(v)
	demand(e == api.OK, e)
	return s
}

func length(args []api.Value) api.Value {
	if isText(args[0]) {
		return number(len(args[0].Text))
	}
	return number(len(args[0].Items))
}

// changed makes a function of one that changes a string.
func changed(change func(string) string) func([]api.Value) api.Value {
	return func(args []api.Value) api.Value { return text(change(args[0].Text)) }
}

func trimmed(s string) string { return strings.Trim(s, blanks) }

// plain is markup without its tags; a String is none.
func plain(args []api.Value) api.Value {
	rest := args[0].Text
	if args[0].Kind == api.String {
		return text(rest)
	}
	var b strings.Builder
	for rest != "" {
		before, tag, _ := strings.Cut(rest, "<")
		b.WriteString(before)
		_, rest, _ = strings.Cut(tag, ">")
	}
	return text(mark.Unescape(b.String()))
}

func firstTrue(args []api.Value) api.Value {
	if Truth(args[0]) {
		return args[0]
	}
	return args[1]
}

// join adds up how long its string will be first: few strings in a list can be more than memory holds.
func join(args []api.Value) api.Value {
	var items []string
	for _, item := range args[0].Items {
		items = append(items, shown(item))
	}
	size := 0
	for i, item := range items {
		if i > 0 {
			size += len(args[1].Text)
		}
		size += len(item)
		demand(size <= api.MaxOut, api.ErrLarge)
	}
	return text(strings.Join(items, args[1].Text))
}

func split(args []api.Value) api.Value {
	s, between := args[0].Text, args[1].Text
	demand(between != "", api.ErrRange)
	demand(strings.Count(s, between) < MaxItems, api.ErrLarge)
	var parts []api.Value
	for part := range strings.SplitSeq(s, between) {
		parts = append(parts, text(part))
	}
	return listOf(parts)
}

func replace(args []api.Value) api.Value {
	s, old, with := args[0].Text, args[1].Text, args[2].Text
	demand(old != "", api.ErrRange)
	demand(len(s)+strings.Count(s, old)*(len(with)-len(old)) <= api.MaxOut, api.ErrLarge)
	return text(strings.ReplaceAll(s, old, with))
}

// reckoned makes a function of one of two numbers.
func reckoned(reckon func(a, b int) int) func([]api.Value) api.Value {
	return func(args []api.Value) api.Value {
		a, b := args[0].Int, args[1].Int
		demand(isNumber(a) && isNumber(b), api.ErrRange)
		n := reckon(a, b)
		demand(isNumber(n), api.ErrRange)
		return number(n)
	}
}

func product(a, b int) int {
	demand(a == 0 || max(b, -b) <= maxNumber/max(a, -a), api.ErrRange)
	return a * b
}

// quotient is rounded down.
func quotient(a, b int) int { return (a - remainder(a, b)) / b }

// remainder has the sign of b.
func remainder(a, b int) int {
	demand(b != 0, api.ErrRange)
	n := a % b
	if n != 0 && n < 0 != (b < 0) {
		n += b
	}
	return n
}

// dated makes a function of one that chooses a part of a date.
func dated(choose func(year, month, day int) int) func([]api.Value) api.Value {
	return func(args []api.Value) api.Value {
		year, month, day, e := conf.Date(args[0].Int)
		demand(e == api.OK, e)
		return number(choose(year, month, day))
	}
}
