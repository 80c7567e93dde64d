package conf

import (
	"slices"

	"masthead/api"
)

// Merge joins two values; what is in both is taken from the near one.
func Merge(near, far api.Value) (api.Value, api.Errno) {
	if e := checkAll(near, far); e != api.OK {
		return api.Value{}, e
	}
	return checked(merge(near, far))
}

func merge(near, far api.Value) api.Value {
	if near.Kind != api.Table || far.Kind != api.Table {
		return clone(near)
	}
	v := api.Value{Kind: api.Table, Keys: keysOf(near, far)}
	for _, key := range v.Keys {
		i, j := find(near, key), find(far, key)
		switch {
		case i < 0:
			v.Items = append(v.Items, clone(far.Items[j]))
		case j < 0:
			v.Items = append(v.Items, clone(near.Items[i]))
		default:
			v.Items = append(v.Items, merge(near.Items[i], far.Items[j]))
		}
	}
	return v
}

// keysOf are the keys that either one of two tables has, in order.
func keysOf(a, b api.Value) []string {
	keys := slices.Concat(a.Keys, b.Keys)
	slices.Sort(keys)
	return slices.Compact(keys)
}

// Diff is the changes that make the second value of the first one.
func Diff(a, b api.Value) ([]Change, api.Errno) {
	if e := checkAll(a, b); e != api.OK {
		return nil, e
	}
	var gone, others []Change
	changes(a, b, "", func(c Change) {
		if c.Gone {
			gone = append(gone, c)
		} else {
			others = append(others, c)
		}
	})
	return append(gone, others...), api.OK
}

// changes goes through what is different in two values, to which a route leads.
func changes(a, b api.Value, route string, visit func(c Change)) {
	if Compare(a, b) == 0 {
		return
	}
	if a.Kind != api.Table || b.Kind != api.Table {
		visit(Change{Route: route, Value: clone(b)})
		return
	}
	for _, key := range keysOf(a, b) {
		i, j, inner := find(a, key), find(b, key), longer(route, key)
		switch {
		case j < 0:
			visit(Change{Route: inner, Gone: true})
		case i < 0:
			visit(Change{Route: inner, Value: clone(b.Items[j])})
		default:
			changes(a.Items[i], b.Items[j], inner, visit)
		}
	}
}

// Apply makes changes, one after the other.
func Apply(v api.Value, l []Change) (api.Value, api.Errno) {
	if e := Check(v); e != api.OK {
		return api.Value{}, e
	}
	for _, c := range l {
		if e := checkChange(c); e != api.OK {
			return api.Value{}, e
		}
	}
	v = clone(v)
	for _, c := range l {
		if e := apply(&v, c); e != api.OK {
			return api.Value{}, e
		}
	}
	return checked(v)
}

func checkChange(c Change) api.Errno {
	if c.Gone && !isZero(c.Value) {
		return api.ErrForm
	}
	if e := Check(c.Value); e != api.OK {
		return e
	}
	parts, ok := cutRoute(c.Route)
	if !ok || c.Gone && len(parts) == 0 {
		return api.ErrPath
	}
	return api.OK
}

// apply makes a change that has been checked in the value itself.
func apply(v *api.Value, c Change) api.Errno {
	parts, _ := cutRoute(c.Route)
	if c.Gone {
		return drop(v, parts)
	}
	return put(v, parts, clone(c.Value))
}
