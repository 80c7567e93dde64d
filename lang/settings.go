package lang

import (
	"slices"
	"strings"

	"masthead/api"
	"masthead/conf"
)

// ReadLanguage reads a language from settings.
func ReadLanguage(name string, v api.Value) (Language, api.Errno) {
	if e := conf.Check(v); e != api.OK {
		return Language{}, e
	}
	if v.Kind != api.Table || !itemsFit(v) {
		return Language{}, api.ErrKind
	}
	if slices.ContainsFunc(v.Keys, func(key string) bool { return kindOf(key) == api.Nil }) {
		return Language{}, api.ErrName
	}
	rule, _, e := ReadRule(item(v, "plural").Text)
	if e != api.OK {
		return Language{}, e
	}
	l := Language{
		Name: name, Parent: item(v, "parent").Text,
		Rule:  rule,
		Group: item(v, "group").Text, Point: item(v, "point").Text,
		Months: textsOf(item(v, "months")), Days: textsOf(item(v, "days")),
		Letters: textsOf(item(v, "letters")),
		Strings: entriesOf(item(v, "strings"), ""),
	}
	// The tables in a table come where their own keys belong, which need not be where the joined ones do: `a.b` is after `a-b`.
	slices.SortFunc(l.Strings, func(a, b Entry) int { return strings.Compare(a.Key, b.Key) })
	if e := CheckLanguage(l); e != api.OK {
		return Language{}, e
	}
	return l, api.OK
}

// kindOf is the Kind of a setting, or Nil, if there is no such setting.
func kindOf(key string) int {
	switch key {
	case "group", "parent", "plural", "point":
		return api.String
	case "days", "letters", "months":
		return api.List
	case "strings":
		return api.Table
	}
	return api.Nil
}

// itemsFit says whether all settings that have a meaning are of their Kinds, with all that is in them.
func itemsFit(v api.Value) bool {
	for i, key := range v.Keys {
		if kind := kindOf(key); kind != api.Nil && !isOf(kind, v.Items[i]) {
			return false
		}
	}
	return true
}

// isOf says whether a value is of a Kind, and has nothing but Strings in it, or, in a Table, such Tables.
func isOf(kind int, v api.Value) bool {
	if v.Kind != kind {
		return false
	}
	for _, item := range v.Items {
		if item.Kind != api.String && (kind == api.List || !isOf(kind, item)) {
			return false
		}
	}
	return true
}

// item is what a table has with a key, or Nil.
func item(v api.Value, key string) api.Value {
	if i, ok := slices.BinarySearch(v.Keys, key); ok {
		return v.Items[i]
	}
	return api.Value{}
}

func textsOf(v api.Value) []string {
	var l []string
	for _, item := range v.Items {
		l = append(l, item.Text)
	}
	return l
}

// entriesOf is the strings of a Table and of those in it, whose keys begin with what is before them.
func entriesOf(v api.Value, before string) []Entry {
	var l []Entry
	for i, item := range v.Items {
		if item.Kind == api.Table {
			l = append(l, entriesOf(item, before+v.Keys[i]+".")...)
		} else {
			l = append(l, Entry{Key: before + v.Keys[i], Text: item.Text})
		}
	}
	return l
}

// LanguageValue writes a language as settings, but for its Name.
func LanguageValue(l Language) (api.Value, api.Errno) {
	if e := CheckLanguage(l); e != api.OK {
		return api.Value{}, e
	}
	plural, e := RuleString(l.Rule)
	if e != api.OK {
		return api.Value{}, e
	}
	table, ok := stringsValue(l.Strings)
	if !ok {
		return api.Value{}, api.ErrTwice
	}
	v := api.Value{Kind: api.Table}
	add := func(key string, item api.Value, needed bool) {
		if needed {
			v.Keys, v.Items = append(v.Keys, key), append(v.Items, item)
		}
	}
	add("days", listValue(l.Days), len(l.Days) > 0)
	add("group", stringValue(l.Group), true)
	add("letters", listValue(l.Letters), len(l.Letters) > 0)
	add("months", listValue(l.Months), len(l.Months) > 0)
	add("parent", stringValue(l.Parent), l.Parent != "")
	add("plural", stringValue(plural), plural != "")
	add("point", stringValue(l.Point), true)
	add("strings", table, len(l.Strings) > 0)
	if e := conf.Check(v); e != api.OK {
		return api.Value{}, e
	}
	return v, api.OK
}

func listValue(l []string) api.Value {
	v := api.Value{Kind: api.List}
	for _, s := range l {
		v.Items = append(v.Items, stringValue(s))
	}
	return v
}

// routed is a string with the parts of its key.
type routed struct {
	parts []string
	text  string
}

// stringsValue is a Table of strings, with Tables for the parts of their keys. It is not ok if one would have to be both.
func stringsValue(l []Entry) (v api.Value, ok bool) {
	var all []routed
	for _, x := range l {
		all = append(all, routed{parts: strings.Split(x.Key, "."), text: x.Text})
	}
	slices.SortFunc(all, func(a, b routed) int { return slices.Compare(a.parts, b.parts) })
	return nestedTable(all)
}

// nestedTable is a Table of strings that are in order by their parts; the first part is the key in it.
func nestedTable(l []routed) (v api.Value, ok bool) {
	v.Kind = api.Table
	for len(l) > 0 {
		key, many := l[0].parts[0], 0
		for many < len(l) && l[many].parts[0] == key {
			many++
		}
		item, ok := stringValue(l[0].text), many == 1
		if len(l[0].parts) > 1 {
			item, ok = nestedTable(withoutFirst(l[:many]))
		}
		if !ok {
			return api.Value{}, false
		}
		v.Keys, v.Items = append(v.Keys, key), append(v.Items, item)
		l = l[many:]
	}
	return v, true
}

func withoutFirst(l []routed) []routed {
	var out []routed
	for _, x := range l {
		out = append(out, routed{parts: x.parts[1:], text: x.text})
	}
	return out
}
