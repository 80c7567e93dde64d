package conf_test

import (
	"fmt"
	"math/rand"
	"strings"
	"testing"

	"masthead/api"
	"masthead/conf"
)

func null() api.Value          { return api.Value{} }
func truth(b bool) api.Value   { return api.Value{Kind: api.Bool, Bool: b} }
func num(n int) api.Value      { return api.Value{Kind: api.Int, Int: n} }
func day(n int) api.Value      { return api.Value{Kind: api.Day, Int: n} }
func str(s string) api.Value   { return api.Value{Kind: api.String, Text: s} }
func strLen(n int) api.Value   { return str(strings.Repeat("x", n)) }
func other(kind int) api.Value { return api.Value{Kind: kind} }

func list(l ...api.Value) api.Value { return api.Value{Kind: api.List, Items: l} }

// table is a table of keys and values, in turn.
func table(l ...any) api.Value {
	v := api.Value{Kind: api.Table}
	for i := 0; i < len(l); i += 2 {
		v.Keys, v.Items = append(v.Keys, l[i].(string)), append(v.Items, l[i+1].(api.Value))
	}
	return v
}

// many are so many equal values.
func many(n int, v api.Value) []api.Value {
	l := make([]api.Value, n)
	for i := range l {
		l[i] = v
	}
	return l
}

// nested is a value with so many lists around it.
func nested(lists int, v api.Value) api.Value {
	for range lists {
		v = list(v)
	}
	return v
}

// show writes a value, of settings or not, as one short line.
func show(v api.Value) string {
	var parts []string
	switch v.Kind {
	case api.Nil:
		parts = append(parts, "nil")
	case api.Bool:
		parts = append(parts, fmt.Sprint(v.Bool))
	case api.Int:
		parts = append(parts, fmt.Sprint(v.Int))
	case api.Day:
		parts = append(parts, fmt.Sprint("day", v.Int))
	case api.String:
		parts = append(parts, fmt.Sprintf("%q", v.Text))
	default:
		parts = append(parts, fmt.Sprint("kind", v.Kind))
	}
	var inner []string
	for i, item := range v.Items {
		s := show(item)
		if i < len(v.Keys) {
			s = v.Keys[i] + ":" + s
		}
		inner = append(inner, s)
	}
	switch v.Kind {
	case api.List:
		return "[" + strings.Join(inner, " ") + "]"
	case api.Table:
		return "{" + strings.Join(inner, " ") + "}"
	}
	return strings.Join(append(parts, inner...), " ")
}

// same says whether two values are equal in all fields; empty and nil lists are the same.
func same(a, b api.Value) bool {
	if a.Kind != b.Kind || a.Bool != b.Bool || a.Int != b.Int || a.Text != b.Text || len(a.Items) != len(b.Items) || len(a.Keys) != len(b.Keys) {
		return false
	}
	for i := range a.Keys {
		if a.Keys[i] != b.Keys[i] {
			return false
		}
	}
	for i := range a.Items {
		if !same(a.Items[i], b.Items[i]) {
			return false
		}
	}
	return true
}

// short is the beginning of a string, for messages.
func short(s string) string {
	if len(s) > 100 {
		return fmt.Sprintf("%q.. (%d bytes)", s[:100], len(s))
	}
	return fmt.Sprintf("%q", s)
}

// expect checks a value that a call returns with its error; with an error the value must be zero.
func expect(t *testing.T, name string, got api.Value, e api.Errno, want api.Value, wantError api.Errno) {
	t.Helper()
	if wantError != api.OK {
		want = api.Value{}
	}
	if e != wantError || !same(got, want) {
		t.Errorf("%s\n got %s, error %d\nwant %s, error %d", name, short(show(got)), e, short(show(want)), wantError)
	}
}

// expectError checks an error, and that the value beside it is zero.
func expectError(t *testing.T, name string, got api.Value, e, want api.Errno) {
	t.Helper()
	if e != want || e != api.OK && !same(got, api.Value{}) {
		t.Errorf("%s: error %d, want %d; beside it %s", name, e, want, short(show(got)))
	}
}

// settings is the table of a string that is known to be right.
func settings(t *testing.T, s string) api.Value {
	t.Helper()
	v, pos, e := conf.Parse(s)
	if e != api.OK {
		t.Fatalf("Parse(%s): error %d at %v", short(s), e, pos)
	}
	return v
}

// randomKey is one of few keys, so that different tables have some in common.
func randomKey(r *rand.Rand) string {
	keys := []string{"a", "b", "c", "a-b", "a_b", "a1", "nil", "no", "zz", strings.Repeat("k", api.MaxPart)}
	return keys[r.Intn(len(keys))]
}

// randomText is a string with bytes that mean something.
func randomText(r *rand.Rand) string {
	pieces := []string{"a", "B", " ", "\n", "\t", "\"", "\\", "#", ";", "{", "]", "$", "%%%", "\xff", "\x7f", "ö", "."}
	var b strings.Builder
	for range r.Intn(6) {
		b.WriteString(pieces[r.Intn(len(pieces))])
	}
	return b.String()
}

// randomValue is a value of settings with at most so many levels.
func randomValue(r *rand.Rand, levels int) api.Value {
	n := 7
	if levels <= 1 {
		n = 5
	}
	switch r.Intn(n) {
	case 0:
		return null()
	case 1:
		return truth(r.Intn(2) == 0)
	case 2:
		return num([]int{0, 1, -1, 10, -9223372036854775808, 9223372036854775807, r.Intn(1000)}[r.Intn(7)])
	case 3:
		return str(randomText(r))
	case 4:
		return day(r.Intn(api.MaxDay + 1))
	case 5:
		v := list()
		for range r.Intn(4) {
			v.Items = append(v.Items, randomValue(r, levels-1))
		}
		return v
	}
	return randomTable(r, levels)
}

// randomTable is a table of settings with at most so many levels.
func randomTable(r *rand.Rand, levels int) api.Value {
	items := map[string]api.Value{}
	if levels > 1 {
		for range r.Intn(5) {
			items[randomKey(r)] = randomValue(r, levels-1)
		}
	}
	v := table()
	for _, key := range []string{"a", "a-b", "a1", "a_b", "b", "c", strings.Repeat("k", api.MaxPart), "nil", "no", "zz"} {
		if item, ok := items[key]; ok {
			v.Keys, v.Items = append(v.Keys, key), append(v.Items, item)
		}
	}
	return v
}
