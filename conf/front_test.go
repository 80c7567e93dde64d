package conf_test

import (
	"math/rand"
	"strings"
	"testing"

	"masthead/api"
	"masthead/conf"
)

// P2.15: bodies with settings and without them.
func TestFront(t *testing.T) {
	one := table("a", num(1))
	for _, c := range []struct {
		body string
		v    api.Value
		rest string
	}{
		{"", table(), ""}, {"body", table(), "body"}, {"body\n%%%\na 1\n%%%\n", table(), "body\n%%%\na 1\n%%%\n"}, {"\n%%%\n%%%\n", table(), "\n%%%\n%%%\n"}, {"%%% \nA\n%%%\n", table(), "%%% \nA\n%%%\n"}, {" %%%\nA\n%%%\n", table(), " %%%\nA\n%%%\n"}, {"%%\nA\n%%%\n", table(), "%%\nA\n%%%\n"}, {"%%%%\nA\n%%%\n", table(), "%%%%\nA\n%%%\n"}, {"%%%\r\n%%%\n", table(), "%%%\r\n%%%\n"}, {"\x01", table(), "\x01"},
		{"%%%\n%%%", table(), ""}, {"%%%\n%%%\n", table(), ""}, {"%%%\n%%%\n\n", table(), "\n"}, {"%%%\n\n%%%\nbody", table(), "body"}, {"%%%\na 1\n%%%\nbody\n", one, "body\n"}, {"%%%\na 1\n%%%", one, ""}, {"%%%\na 1\n%%%\n%%%\nb 1\n%%%\n", one, "%%%\nb 1\n%%%\n"}, {"%%%\n# %%%\na 1 # x\n%%%\n\x01", one, "\x01"}, {"%%%\na {\nb [\n1\n]\n}\n%%%\nx", table("a", table("b", list(num(1)))), "x"},
		{strings.Repeat("x", api.MaxBody), table(), strings.Repeat("x", api.MaxBody)},
	} {
		v, rest, pos, e := conf.Front(c.body)
		expect(t, "Front of "+short(c.body), v, e, c.v, api.OK)
		if rest != c.rest || pos != (conf.Pos{}) {
			t.Errorf("Front(%s): the rest is %s, at %v", short(c.body), short(rest), pos)
		}
	}
}

// P2.15: errors of Front and their positions.
func TestFrontErrors(t *testing.T) {
	for _, c := range []parseError{
		{"%%%", 1, 1, api.ErrSyntax}, {"%%%\n", 1, 1, api.ErrSyntax}, {"%%%\na 1", 1, 1, api.ErrSyntax}, {"%%%\n\x01\n", 1, 1, api.ErrSyntax}, {"%%%\na 1\n %%%\n%%% \n%%%%", 1, 1, api.ErrSyntax}, {"%%%\n%%%x", 1, 1, api.ErrSyntax},
		{"%%%\na 1\nb\n%%%", 3, 2, api.ErrSyntax}, {"%%%\nA 1\n%%%\nbody", 2, 1, api.ErrSyntax}, {"%%%\n\n a \x01\n%%%\n", 3, 4, api.ErrByte}, {"%%%\na 1\na 2\n%%%\n", 3, 1, api.ErrTwice}, {"%%%\na 2000-02-30\n%%%\n", 2, 3, api.ErrRange}, {"%%%\na [[[[[[[[\n%%%\n", 2, 10, api.ErrDeep}, {"%%%\na [\n%%%\n]\n%%%\n", 3, 1, api.ErrSyntax}, {"%%%\na {\n%%%\n", 3, 1, api.ErrSyntax}, {"%%%\na \"\n%%%\n", 2, 3, api.ErrSyntax},
		{"%%%\na [" + strings.Repeat("1 ", conf.MaxValues-2) + "\n1]\n%%%\n", 3, 1, api.ErrLarge}, {"%%%\nb \"" + strings.Repeat("x", conf.MaxString+1) + "\"\n%%%\n", 2, 3, api.ErrLarge},
		{strings.Repeat("x", api.MaxBody+1), 0, 0, api.ErrLarge}, {"%%%\n" + strings.Repeat("x", api.MaxBody), 0, 0, api.ErrLarge}, {"%%%\n%%%\n" + strings.Repeat("x", api.MaxBody-7), 0, 0, api.ErrLarge},
	} {
		v, rest, pos, e := conf.Front(c.s)
		expectError(t, "Front of "+short(c.s), v, e, c.want)
		if want := (conf.Pos{Line: c.line, Column: c.column}); pos != want || rest != "" {
			t.Errorf("Front(%s): error at %v, want %v; the rest is %s", short(c.s), pos, want, short(rest))
		}
	}
}

// P2.15: Join.
func TestJoin(t *testing.T) {
	one := table("a", num(1))
	for _, c := range []struct {
		v    api.Value
		rest string
		want string
	}{
		{table(), "", ""}, {table(), "x", "x"}, {table(), "x\n%%%\n", "x\n%%%\n"}, {table(), "%%% ", "%%% "}, {table(), "%%%%\n", "%%%%\n"}, {table(), "\n%%%", "\n%%%"}, {table(), "%%%", "%%%\n%%%\n%%%"}, {table(), "%%%\nx", "%%%\n%%%\n%%%\nx"},
		{one, "", "%%%\na 1\n%%%\n"}, {one, "x", "%%%\na 1\n%%%\nx"}, {one, "%%%\nx", "%%%\na 1\n%%%\n%%%\nx"}, {table("a", table("b", list()), "c", str("%%%\n%%%")), "\n", "%%%\na {\n  b []\n}\nc \"%%%\\n%%%\"\n%%%\n\n"},
		{table(), strings.Repeat("x", api.MaxBody), strings.Repeat("x", api.MaxBody)}, {one, strings.Repeat("x", api.MaxBody-12), "%%%\na 1\n%%%\n" + strings.Repeat("x", api.MaxBody-12)},
	} {
		if s, e := conf.Join(c.v, c.rest); e != api.OK || s != c.want {
			t.Errorf("Join(%s, %s): %s, error %d; want %s", show(c.v), short(c.rest), short(s), e, short(c.want))
		}
	}
	large := table("a", list(many(11, strLen(conf.MaxString))...))
	for name, c := range map[string]struct {
		v    api.Value
		rest string
		want api.Errno
	}{
		"only the rest": {table(), strings.Repeat("x", api.MaxBody+1), api.ErrLarge}, "one byte more": {one, strings.Repeat("x", api.MaxBody-11), api.ErrLarge}, "a divider": {table(), "%%%\n" + strings.Repeat("x", api.MaxBody-11), api.ErrLarge}, "settings alone": {table("a", list(many(5, strLen(conf.MaxString))...)), "", api.ErrLarge}, "more than Print has": {large, "", api.ErrLarge},
		"a kind": {num(1), "", api.ErrKind}, "a kind before large": {list(), strings.Repeat("x", api.MaxBody+1), api.ErrKind}, "no value of settings": {day(-1), "", api.ErrRange}, "no value of settings in a table": {table("a", str("\x01")), strings.Repeat("x", api.MaxBody+1), api.ErrByte},
	} {
		if s, e := conf.Join(c.v, c.rest); e != c.want || s != "" {
			t.Errorf("%s: %s, error %d; want %d", name, short(s), e, c.want)
		}
	}
}

// P2.15: Front of Join(v, rest) is v and the rest.
func TestJoinRandom(t *testing.T) {
	r := rand.New(rand.NewSource(8))
	for range 10_000 {
		v, rest := randomTable(r, 4), ""
		for range r.Intn(5) {
			rest += []string{"%%%", "\n", "x", "a 1\n", "%%%\n"}[r.Intn(5)]
		}
		if r.Intn(3) == 0 {
			v = table()
		}
		body, e := conf.Join(v, rest)
		if e != api.OK {
			t.Fatalf("Join(%s, %q): error %d", show(v), rest, e)
		}
		got, after, pos, e := conf.Front(body)
		if e != api.OK || !same(got, v) || after != rest || pos != (conf.Pos{}) {
			t.Fatalf("Front(%q): %s and %q, error %d at %v; want %s and %q", body, show(got), after, e, pos, show(v), rest)
		}
	}
}
