package conf

import (
	"slices"
	"strings"

	"masthead/api"
)

const star = "*"

// CheckSchema says whether a schema is one.
func CheckSchema(s Schema) api.Errno {
	if len(s.Fields) > MaxFields {
		return api.ErrLarge
	}
	has := map[string]bool{}
	for _, f := range s.Fields {
		if _, ok := cutParts(f.Route, isFieldPart); !ok {
			return api.ErrPath
		}
		if has[f.Route] {
			return api.ErrTwice
		}
		has[f.Route] = true
		if e := checkField(f); e != api.OK {
			return e
		}
	}
	return api.OK
}

// isFieldPart says whether a string can be a part of the Route of a field.
func isFieldPart(s string) bool { return s == star || isPart(s) }

// checkField checks all of a field but its Route.
func checkField(f Field) api.Errno {
	switch {
	case f.Kind != Any && (f.Kind < api.Nil || f.Kind > api.Table):
		return api.ErrKind
	case !f.Bounded && (f.Min != 0 || f.Max != 0):
		return api.ErrForm
	case f.Min > f.Max:
		return api.ErrOrder
	case len(f.OneOf) > 0 && f.Kind != api.String:
		return api.ErrForm
	}
	for _, s := range f.OneOf {
		if e := checkText(s); e != api.OK {
			return e
		}
	}
	return checkDefault(f)
}

func checkDefault(f Field) api.Errno {
	if e := Check(f.Default); e != api.OK {
		return e
	}
	switch {
	case f.Default.Kind == api.Nil:
		return api.OK
	case f.Kind != Any && f.Kind != f.Default.Kind:
		return api.ErrKind
	case strings.Contains(f.Route, star):
		return api.ErrForm
	}
	return api.OK
}

// kindNames are the names of the kinds of fields, from Any on.
func kindNames() []string {
	return []string{"any", "nil", "bool", "int", "string", "day", "list", "table"}
}

func kindName(kind int) string { return kindNames()[kind-Any] }

// namedKind is the kind of fields with a name.
func namedKind(name string) (kind int, ok bool) {
	i := slices.Index(kindNames(), name)
	return i + Any, i >= 0
}
