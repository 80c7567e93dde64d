package conf

import (
	"strings"

	"masthead/api"
)

// Expand replaces the routes in all Strings by what they lead to.
func Expand(v api.Value) (api.Value, api.Errno) {
	if e := Check(v); e != api.OK {
		return api.Value{}, e
	}
	x := &expander{whole: v, done: map[string]string{}, begun: map[string]bool{}}
	expanded := clone(v)
	if e := x.inside(&expanded, ""); e != api.OK {
		return api.Value{}, e
	}
	return expanded, api.OK
}

// expander expands the Strings of a value, each one once: others may need it many times.
type expander struct {
	whole api.Value
	done  map[string]string // by route
	begun map[string]bool   // by route
}

// inside expands the Strings of a value, to which a route leads, in the value itself.
func (x *expander) inside(v *api.Value, route string) api.Errno {
	if v.Kind == api.String {
		text, e := x.text(v.Text, route)
		v.Text = text
		return e
	}
	for i := range v.Items {
		if e := x.inside(&v.Items[i], longer(route, partTo(*v, i))); e != api.OK {
			return e
		}
	}
	return api.OK
}

// text is the text of a String, to which a route leads, expanded.
func (x *expander) text(s, route string) (string, api.Errno) {
	if text, ok := x.done[route]; ok {
		return text, api.OK
	}
	if x.begun[route] {
		return "", api.ErrLoop
	}
	x.begun[route] = true
	var b strings.Builder
	for {
		plain, rest, found := strings.Cut(s, "$")
		b.WriteString(plain)
		if !found {
			break
		}
		text, after, e := x.dollar(rest)
		if e != api.OK {
			return "", e
		}
		b.WriteString(text)
		s = after
	}
	if b.Len() > MaxString {
		return "", api.ErrLarge
	}
	x.done[route] = b.String()
	return b.String(), api.OK
}

// dollar is what stands for a dollar sign and what belongs to it; rest is what follows the sign, and after what does not belong to it.
func (x *expander) dollar(rest string) (text, after string, e api.Errno) {
	if after, ok := strings.CutPrefix(rest, "$"); ok {
		return "$", after, api.OK
	}
	inner, ok := strings.CutPrefix(rest, "{")
	route, after, closed := strings.Cut(inner, "}")
	if !ok || !closed {
		return "", "", api.ErrSyntax
	}
	text, e = x.insertion(route)
	return text, after, e
}

// insertion is the string of the value to which a route leads.
func (x *expander) insertion(route string) (string, api.Errno) {
	parts, ok := cutRoute(route)
	if !ok {
		return "", api.ErrPath
	}
	v, ok := follow(x.whole, parts)
	if !ok {
		return "", api.ErrNone
	}
	switch v.Kind {
	case api.List, api.Table:
		return "", api.ErrKind
	case api.String:
		return x.text(v.Text, route)
	case api.Nil:
		return "", api.OK
	}
	return plainWord(v), api.OK
}
