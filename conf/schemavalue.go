package conf

import "masthead/api"

// SchemaValue writes a schema as a value.
func SchemaValue(s Schema) (api.Value, api.Errno) {
	if e := CheckSchema(s); e != api.OK {
		return api.Value{}, e
	}
	fields := api.Value{Kind: api.List}
	for _, f := range s.Fields {
		fields.Items = append(fields.Items, fieldValue(f))
	}
	return checked(tableOf(map[string]api.Value{"fields": fields, "strict": boolValue(s.Strict)}))
}

func fieldValue(f Field) api.Value {
	items := map[string]api.Value{"kind": textValue(kindName(f.Kind)), "need": boolValue(f.Need), "route": textValue(f.Route)}
	if f.Bounded {
		items["max"] = api.Value{Kind: api.Int, Int: f.Max}
		items["min"] = api.Value{Kind: api.Int, Int: f.Min}
	}
	if len(f.OneOf) > 0 {
		oneOf := api.Value{Kind: api.List}
		for _, s := range f.OneOf {
			oneOf.Items = append(oneOf.Items, textValue(s))
		}
		items["oneof"] = oneOf
	}
	if f.Default.Kind != api.Nil {
		items["default"] = clone(f.Default)
	}
	return tableOf(items)
}

func boolValue(b bool) api.Value { return api.Value{Kind: api.Bool, Bool: b} }

func textValue(s string) api.Value { return api.Value{Kind: api.String, Text: s} }

// ReadSchema reads a schema that is written as a value.
func ReadSchema(v api.Value) (Schema, api.Errno) {
	if e := Check(v); e != api.OK {
		return Schema{}, e
	}
	switch {
	case !hasKinds(v):
		return Schema{}, api.ErrKind
	case !hasNames(v):
		return Schema{}, api.ErrName
	case !hasNeeded(v):
		return Schema{}, api.ErrNone
	}
	s := Schema{Strict: itemOf(v, "strict").Bool}
	for _, x := range itemOf(v, "fields").Items {
		s.Fields = append(s.Fields, fieldOf(x))
	}
	if e := CheckSchema(s); e != api.OK {
		return Schema{}, e
	}
	return s, api.OK
}

// schemaKey is the kind of the item that a key has in a schema, if it knows that key.
func schemaKey(key string) (kind int, ok bool) {
	switch key {
	case "strict":
		return api.Bool, true
	case "fields":
		return api.List, true
	}
	return 0, false
}

// fieldKey is the kind of the item that a key has in a field, if it knows that key.
func fieldKey(key string) (kind int, ok bool) {
	switch key {
	case "route", "kind":
		return api.String, true
	case "need":
		return api.Bool, true
	case "min", "max":
		return api.Int, true
	case "oneof":
		return api.List, true
	case "default":
		return Any, true
	}
	return 0, false
}

// hasKinds says whether all in a schema that is known is of its kind.
func hasKinds(v api.Value) bool {
	if !isTableOf(v, schemaKey) {
		return false
	}
	for _, x := range itemOf(v, "fields").Items {
		if !isTableOf(x, fieldKey) {
			return false
		}
		for _, s := range itemOf(x, "oneof").Items {
			if s.Kind != api.String {
				return false
			}
		}
	}
	return true
}

// isTableOf says whether a value is a table in which the items of known keys are of their kinds.
func isTableOf(v api.Value, known func(key string) (kind int, ok bool)) bool {
	for i, key := range v.Keys {
		if kind, ok := known(key); ok && kind != Any && v.Items[i].Kind != kind {
			return false
		}
	}
	return v.Kind == api.Table
}

// hasNames says whether all keys and kinds in a schema are known.
func hasNames(v api.Value) bool {
	if !knowsKeys(v, schemaKey) {
		return false
	}
	for _, x := range itemOf(v, "fields").Items {
		if !knowsKeys(x, fieldKey) {
			return false
		}
		if i := find(x, "kind"); i >= 0 {
			if _, ok := namedKind(x.Items[i].Text); !ok {
				return false
			}
		}
	}
	return true
}

func knowsKeys(v api.Value, known func(key string) (kind int, ok bool)) bool {
	for _, key := range v.Keys {
		if _, ok := known(key); !ok {
			return false
		}
	}
	return true
}

// hasNeeded says whether all that must be in a schema is there.
func hasNeeded(v api.Value) bool {
	for _, x := range itemOf(v, "fields").Items {
		if find(x, "route") < 0 || find(x, "kind") < 0 || (find(x, "min") < 0) != (find(x, "max") < 0) {
			return false
		}
	}
	return true
}

// itemOf is the item with a key, or Nil.
func itemOf(v api.Value, key string) api.Value {
	if i := find(v, key); i >= 0 {
		return v.Items[i]
	}
	return api.Value{}
}

func fieldOf(v api.Value) Field {
	f := Field{
		Route: itemOf(v, "route").Text, Need: itemOf(v, "need").Bool, Default: clone(itemOf(v, "default")),
		Bounded: find(v, "min") >= 0, Min: itemOf(v, "min").Int, Max: itemOf(v, "max").Int,
	}
	f.Kind, _ = namedKind(itemOf(v, "kind").Text)
	for _, s := range itemOf(v, "oneof").Items {
		f.OneOf = append(f.OneOf, s.Text)
	}
	return f
}
