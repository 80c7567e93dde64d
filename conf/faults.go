package conf

import (
	"slices"
	"strings"

	"masthead/api"
)

// Faults are what is wrong with a value, by a schema.
func Faults(s Schema, v api.Value) ([]Fault, api.Errno) {
	if e := CheckSchema(s); e != api.OK {
		return nil, e
	}
	if e := Check(v); e != api.OK {
		return nil, e
	}
	var l []Fault
	for _, f := range s.Fields {
		w := &walker{field: f, report: func(route string, kind int) { l = append(l, Fault{Route: route, Kind: kind}) }}
		w.walk(v, strings.Split(f.Route, "."), "")
	}
	if s.Strict {
		l = append(l, unknown(s, v)...)
	}
	return l, api.OK
}

// walker goes from a value to where the Route of a field leads.
type walker struct {
	field  Field
	report func(route string, kind int)
}

// walk goes on along parts, from a value to which the route leads.
func (w *walker) walk(v api.Value, parts []string, route string) {
	if len(parts) == 0 {
		w.measure(v, route)
		return
	}
	if parts[0] == star {
		for i, item := range v.Items {
			w.walk(item, parts[1:], longer(route, partTo(v, i)))
		}
		return
	}
	route = longer(route, parts[0])
	if i := find(v, parts[0]); i >= 0 {
		w.walk(v.Items[i], parts[1:], route)
	} else if w.field.Need {
		w.report(route, Missing)
	}
}

// measure looks at a value at the end of the Route.
func (w *walker) measure(v api.Value, route string) {
	f := w.field
	if f.Kind != Any && f.Kind != v.Kind {
		w.report(route, Wrong)
		return
	}
	if n, ok := size(v); ok && f.Bounded && n < f.Min {
		w.report(route, Low)
	} else if ok && f.Bounded && n > f.Max {
		w.report(route, High)
	}
	if len(f.OneOf) > 0 && !slices.Contains(f.OneOf, v.Text) {
		w.report(route, Other)
	}
}

// size is the measure of a value, if it has one.
func size(v api.Value) (n int, ok bool) {
	switch v.Kind {
	case api.Int, api.Day:
		return v.Int, true
	case api.String:
		return len(v.Text), true
	case api.List, api.Table:
		return len(v.Items), true
	}
	return 0, false
}

// unknown are the faults of what no field names.
func unknown(s Schema, v api.Value) []Fault {
	var fields [][]string
	for _, f := range s.Fields {
		fields = append(fields, strings.Split(f.Route, "."))
	}
	var l []Fault
	for _, route := range routes(v) {
		parts, _ := cutRoute(route)
		if !slices.ContainsFunc(fields, func(field []string) bool { return matches(field, parts) }) {
			l = append(l, Fault{Route: route, Kind: Unknown})
		}
	}
	return l
}

// matches says whether the parts of a field match those of a route, or a beginning of them.
func matches(field, parts []string) bool {
	if len(field) > len(parts) {
		return false
	}
	for i, part := range field {
		if part != star && part != parts[i] {
			return false
		}
	}
	return true
}

// Fill is a value with what a schema has for what is not there.
func Fill(s Schema, v api.Value) (api.Value, api.Errno) {
	if e := CheckSchema(s); e != api.OK {
		return api.Value{}, e
	}
	if e := Check(v); e != api.OK {
		return api.Value{}, e
	}
	v = clone(v)
	for _, f := range s.Fields {
		if f.Default.Kind == api.Nil {
			continue
		}
		if _, ok := follow(v, strings.Split(f.Route, ".")); ok {
			continue
		}
		filled, e := Set(v, f.Route, f.Default)
		if e != api.OK {
			return api.Value{}, e
		}
		v = filled
	}
	return v, api.OK
}
