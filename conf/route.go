package conf

import (
	"slices"
	"strconv"
	"strings"

	"masthead/api"
)

// Get is the value to which a route leads.
func Get(v api.Value, route string) (api.Value, api.Errno) {
	if e := Check(v); e != api.OK {
		return api.Value{}, e
	}
	parts, ok := cutRoute(route)
	if !ok {
		return api.Value{}, api.ErrPath
	}
	item, ok := follow(v, parts)
	if !ok {
		return api.Value{}, api.ErrNone
	}
	return clone(item), api.OK
}

// Set is a value with another one where a route leads.
func Set(v api.Value, route string, x api.Value) (api.Value, api.Errno) {
	if e := checkAll(v, x); e != api.OK {
		return api.Value{}, e
	}
	parts, ok := cutRoute(route)
	if !ok {
		return api.Value{}, api.ErrPath
	}
	v = clone(v)
	if e := put(&v, parts, clone(x)); e != api.OK {
		return api.Value{}, e
	}
	return checked(v)
}

// Remove is a value without the item to which a route leads.
func Remove(v api.Value, route string) (api.Value, api.Errno) {
	if e := Check(v); e != api.OK {
		return api.Value{}, e
	}
	parts, ok := cutRoute(route)
	if !ok || len(parts) == 0 {
		return api.Value{}, api.ErrPath
	}
	v = clone(v)
	if e := drop(&v, parts); e != api.OK {
		return api.Value{}, e
	}
	return v, api.OK
}

// Routes are the routes to all values without Items.
func Routes(v api.Value) ([]string, api.Errno) {
	if e := Check(v); e != api.OK {
		return nil, e
	}
	return routes(v), api.OK
}

func routes(v api.Value) []string {
	var l []string
	var visit func(v api.Value, route string)
	visit = func(v api.Value, route string) {
		if len(v.Items) == 0 {
			l = append(l, route)
		}
		for i, item := range v.Items {
			visit(item, longer(route, partTo(v, i)))
		}
	}
	visit(v, "")
	return l
}

// cutRoute is the parts of a route; it is not ok if the string is none.
func cutRoute(route string) (parts []string, ok bool) {
	if route == "" {
		return nil, true
	}
	return cutParts(route, isPart)
}

// cutParts is the parts of a string, one or more; it is not ok if it is too long, or one of them is no part.
func cutParts(s string, allowed func(part string) bool) (parts []string, ok bool) {
	if len(s) > MaxRoute {
		return nil, false
	}
	parts = strings.Split(s, ".")
	for _, part := range parts {
		if !allowed(part) {
			return nil, false
		}
	}
	return parts, true
}

// isPart says whether a string can be a part of a route.
func isPart(s string) bool { return isKey(s) || isIndex(s) }

// isIndex says whether a part is a number from 0 to 9999.
func isIndex(part string) bool { return len(part) <= 4 && isNumber(part) }

// longer is a route with one more part.
func longer(route, part string) string {
	if route == "" {
		return part
	}
	return route + "." + part
}

// partTo is the part that leads to an item of a value.
func partTo(v api.Value, i int) string {
	if v.Kind == api.Table {
		return v.Keys[i]
	}
	return strconv.Itoa(i)
}

// find is the index of the item to which a part leads, or -1.
func find(v api.Value, part string) int {
	switch v.Kind {
	case api.Table:
		if i, ok := slices.BinarySearch(v.Keys, part); ok {
			return i
		}
	case api.List:
		if i, err := strconv.Atoi(part); err == nil && i < len(v.Items) {
			return i
		}
	}
	return -1
}

// follow goes from a value along the parts of a route.
func follow(v api.Value, parts []string) (item api.Value, ok bool) {
	for _, part := range parts {
		i := find(v, part)
		if i < 0 {
			return api.Value{}, false
		}
		v = v.Items[i]
	}
	return v, true
}

// put changes the value itself.
func put(v *api.Value, parts []string, x api.Value) api.Errno {
	for _, part := range parts {
		item, e := place(v, part)
		if e != api.OK {
			return e
		}
		v = item
	}
	*v = x
	return api.OK
}

// place is the item to which a part leads; it makes one, if there is none.
func place(v *api.Value, part string) (*api.Value, api.Errno) {
	kind := api.Table
	if isIndex(part) {
		kind = api.List
	}
	if v.Kind == api.Nil {
		v.Kind = kind
	}
	if v.Kind != kind {
		return nil, api.ErrKind
	}
	i := find(*v, part)
	if i >= 0 {
		return &v.Items[i], api.OK
	}
	if kind == api.Table {
		i, _ = slices.BinarySearch(v.Keys, part)
		v.Keys = slices.Insert(v.Keys, i, part)
	} else if i = len(v.Items); part != strconv.Itoa(i) {
		return nil, api.ErrRange
	}
	v.Items = slices.Insert(v.Items, i, api.Value{})
	return &v.Items[i], api.OK
}

// drop takes the item to which parts lead out of the value itself.
func drop(v *api.Value, parts []string) api.Errno {
	last := len(parts) - 1
	for _, part := range parts[:last] {
		i := find(*v, part)
		if i < 0 {
			return api.ErrNone
		}
		v = &v.Items[i]
	}
	i := find(*v, parts[last])
	if i < 0 {
		return api.ErrNone
	}
	v.Items = slices.Delete(v.Items, i, i+1)
	if v.Kind == api.Table {
		v.Keys = slices.Delete(v.Keys, i, i+1)
	}
	return api.OK
}
