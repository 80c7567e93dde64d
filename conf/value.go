package conf

import (
	"cmp"
	"slices"
	"strings"

	"masthead/api"
)

// Check says whether a value is one of settings.
func Check(v api.Value) api.Errno {
	if count(v, MaxValues) > MaxValues {
		return api.ErrLarge
	}
	if levels(v) > MaxDepth {
		return api.ErrDeep
	}
	return checkEach(v)
}

// count is how many values a value has, or some number above most, if there are more.
func count(v api.Value, most int) int {
	n := 1
	for i := 0; i < len(v.Items) && n <= most; i++ {
		n += count(v.Items[i], most-n)
	}
	return n
}

func levels(v api.Value) int {
	deepest := 0
	for _, item := range v.Items {
		deepest = max(deepest, levels(item))
	}
	return deepest + 1
}

func checkEach(v api.Value) api.Errno {
	if e := checkFields(v); e != api.OK {
		return e
	}
	for _, item := range v.Items {
		if e := checkEach(item); e != api.OK {
			return e
		}
	}
	return api.OK
}

// checkFields checks a value, but not its Items.
func checkFields(v api.Value) api.Errno {
	switch {
	case v.Kind < api.Nil || v.Kind > api.Table:
		return api.ErrKind
	case hasUnused(v):
		return api.ErrForm
	case v.Kind == api.Day && !isDay(v.Int):
		return api.ErrRange
	}
	if e := checkText(v.Text); e != api.OK {
		return e
	}
	return checkKeys(v.Keys)
}

// hasUnused says whether a field that the Kind of a value does not use is not zero, or a Table has not as many Keys as Items.
func hasUnused(v api.Value) bool {
	if v.Kind == api.Table && len(v.Keys) != len(v.Items) {
		return true
	}
	switch v.Kind {
	case api.Bool:
		v.Bool = false
	case api.Int, api.Day:
		v.Int = 0
	case api.String:
		v.Text = ""
	case api.List:
		v.Items = nil
	case api.Table:
		v.Keys, v.Items = nil, nil
	}
	v.Kind = api.Nil
	return !isZero(v)
}

func isZero(v api.Value) bool {
	return v.Kind == api.Nil && !v.Bool && v.Int == 0 && v.Text == "" && len(v.Items) == 0 && len(v.Keys) == 0
}

// checkText checks a string that a value has, or may have.
func checkText(s string) api.Errno {
	if len(s) > MaxString {
		return api.ErrLarge
	}
	for i := range len(s) {
		if isControl(s[i]) {
			return api.ErrByte
		}
	}
	return api.OK
}

// isControl says whether a byte cannot be in settings.
func isControl(c byte) bool { return c < ' ' && c != '\t' && c != '\n' }

func checkKeys(keys []string) api.Errno {
	for i, key := range keys {
		if !isKey(key) {
			return api.ErrName
		}
		if i > 0 && key <= keys[i-1] {
			return api.ErrOrder
		}
	}
	return api.OK
}

func isKey(s string) bool {
	if s == "" || len(s) > api.MaxPart || !isSmall(s[0]) {
		return false
	}
	for i := range len(s) {
		if !isSmall(s[i]) && !isDigit(s[i]) && s[i] != '-' && s[i] != '_' {
			return false
		}
	}
	return true
}

func isSmall(c byte) bool { return c >= 'a' && c <= 'z' }

func isDigit(c byte) bool { return c >= '0' && c <= '9' }

// checkAll checks values one after the other.
func checkAll(l ...api.Value) api.Errno {
	for _, v := range l {
		if e := Check(v); e != api.OK {
			return e
		}
	}
	return api.OK
}

// checked is a value that a function has made, if it is one of settings.
func checked(v api.Value) (api.Value, api.Errno) {
	if e := Check(v); e != api.OK {
		return api.Value{}, e
	}
	return v, api.OK
}

// clone is a value in memory of its own.
func clone(v api.Value) api.Value {
	v.Keys = append([]string(nil), v.Keys...)
	v.Items = append([]api.Value(nil), v.Items...)
	for i, item := range v.Items {
		v.Items[i] = clone(item)
	}
	return v
}

// Compare orders all values: it is -1, 0 or 1.
func Compare(a, b api.Value) int {
	type pair struct{ a, b []api.Value }
	// Values that are not of settings can be nested deeper than calls can be: what is still to be compared is kept in a list.
	for left := []pair{{[]api.Value{a}, []api.Value{b}}}; len(left) > 0; {
		top := &left[len(left)-1]
		if len(top.a) == 0 || len(top.b) == 0 {
			if c := cmp.Compare(len(top.a), len(top.b)); c != 0 {
				return c
			}
			left = left[:len(left)-1]
			continue
		}
		x, y := &top.a[0], &top.b[0]
		top.a, top.b = top.a[1:], top.b[1:]
		if c := compareFields(x, y); c != 0 {
			return c
		}
		left = append(left, pair{x.Items, y.Items})
	}
	return 0
}

// compareFields compares two values but for their Items.
func compareFields(a, b *api.Value) int {
	if a.Kind != b.Kind {
		return cmp.Compare(a.Kind, b.Kind)
	}
	if a.Bool != b.Bool {
		if b.Bool {
			return -1
		}
		return 1
	}
	return cmp.Or(cmp.Compare(a.Int, b.Int), strings.Compare(a.Text, b.Text), slices.Compare(a.Keys, b.Keys))
}
