package list_test

import (
	"math/rand"
	"strings"
	"testing"

	"masthead/api"
	"masthead/conf"
	"masthead/list"
)

// P4.3: what is read, and how it would be written.
func TestReadCond(t *testing.T) {
	for s, want := range map[string]string{
		"a":          "a",
		" \t\n a \n": "a",
		"((a))":      "a",
		"(((((((((((((((((((((a)))))))))))))))))))))": "a",
		"a=1":                         "a = 1",
		"a!=1":                        "a != 1",
		"a<1":                         "a < 1",
		"a<=1":                        "a <= 1",
		"a>1":                         "a > 1",
		"a>=-1":                       "a >= -1",
		"a\nhas\t\"x\"":               `a has "x"`,
		"a has\"x\"and b":             `a has "x" and b`,
		"a in[1\n2]or b":              "a in [1 2] or b",
		"a in [\"x\"\"y\"]":           `a in ["x" "y"]`,
		"a begins \"x\"":              `a begins "x"`,
		"a = \"\\n\\t\\\"\\\\\"":      `a = "\n\t\"\\"`,
		"a = \"x\ty\"":                `a = "x\ty"`,
		"a = \" # ; { ( . \xff\x7f\"": "a = \" # ; { ( . \xff\x7f\"",
		"a = nil":                     "a = nil",
		"nil = yes":                   "nil = yes",
		"a = 2000-02-29":              "a = 2000-02-29",
		"a-b_1.0.c":                   "a-b_1.0.c",
		"0 = 0":                       "0 = 0",
		"and.a = 1":                   "and.a = 1",
		"az09.z = 9":                  "az09.z = 9",
		"a and b or c":                "a and b or c",
		"a or b and c":                "a or b and c",
		"(a or b) and c":              "(a or b) and c",
		"(a and b) or c":              "a and b or c",
		"(a and b) and c":             "a and b and c",
		"a and (b and (c and d))":     "a and b and c and d",
		"a or (b or c) or (d or e)":   "a or b or c or d or e",
		"a and ((b and c) or d)":      "a and (b and c or d)",
		"a and ((b or c))":            "a and (b or c)",
		"not a and b":                 "not a and b",
		"not (a and b)":               "not (a and b)",
		"not (a) and not(b)":          "not a and not b",
		"not not(not a)":              "not not not a",
		"not a = 1":                   "not a = 1",
		"a and not (b and c) and (d)": "a and not (b and c) and d",
		"(a = 1)and(b)":               "a = 1 and b",
	} {
		c, at, e := list.ReadCond(s)
		if e != api.OK || at != 0 {
			t.Errorf("%q: error %d at %d", s, e, at)
			continue
		}
		got, e := list.CondString(c)
		expect(t, s, got, e, want, api.OK)
	}
	c, _, e := list.ReadCond("a and (b and (c or d)) and e in [1 \"x\"]")
	expect(t, "a tree", c, e, of(list.And, there("a"), there("b"), of(list.Or, there("c"), there("d")), one(list.In, "e", listOf(num(1), str("x")))), api.OK)
}

type readCase struct {
	s  string
	at int
	e  api.Errno
}

func expectReadErrors(t *testing.T, cases []readCase) {
	t.Helper()
	for _, x := range cases {
		c, at, e := list.ReadCond(x.s)
		if e != x.e || at != x.at || show(c) != show(list.Cond{}) {
			t.Errorf("%s: error %d at %d, want %d at %d; beside it %s", short(x.s), e, at, x.e, x.at, show(c))
		}
	}
}

// P4.3: tokens that are none, or that cannot be there.
func TestReadCondSyntax(t *testing.T) {
	expectReadErrors(t, []readCase{
		{"", 0, api.ErrSyntax}, {" \n ", 3, api.ErrSyntax}, {"a and", 5, api.ErrSyntax}, {"a and \n", 7, api.ErrSyntax}, {"a or", 4, api.ErrSyntax}, {"not", 3, api.ErrSyntax},
		{"(", 1, api.ErrSyntax}, {"()", 1, api.ErrSyntax}, {"(a", 2, api.ErrSyntax}, {"(a b)", 3, api.ErrSyntax}, {"a)", 1, api.ErrSyntax}, {"(a))", 3, api.ErrSyntax}, {")", 0, api.ErrSyntax},
		{"a b", 2, api.ErrSyntax}, {"a (b)", 2, api.ErrSyntax}, {"a not b", 2, api.ErrSyntax}, {"a \"b\"", 2, api.ErrSyntax}, {"a [", 2, api.ErrSyntax}, {"a ]", 2, api.ErrSyntax},
		{"and", 0, api.ErrSyntax}, {"or a", 0, api.ErrSyntax}, {"in in [1]", 0, api.ErrSyntax}, {"has", 0, api.ErrSyntax}, {"begins = 1", 0, api.ErrSyntax}, {"not and", 4, api.ErrSyntax}, {"a and or", 6, api.ErrSyntax},
		{"= 1", 0, api.ErrSyntax}, {"\"a\" = 1", 0, api.ErrSyntax}, {"[1]", 0, api.ErrSyntax}, {"(a and) b", 6, api.ErrSyntax},
		{"a =", 3, api.ErrSyntax}, {"a = = 1", 4, api.ErrSyntax}, {"a == 1", 3, api.ErrSyntax}, {"a =< 1", 3, api.ErrSyntax}, {"a < = 1", 4, api.ErrSyntax}, {"a = (1)", 4, api.ErrSyntax}, {"a = ]", 4, api.ErrSyntax},
		{"a = b", 4, api.ErrSyntax}, {"a = and", 4, api.ErrSyntax}, {"a = Yes", 4, api.ErrSyntax}, {"a = 1.5", 4, api.ErrSyntax}, {"a = 01", 4, api.ErrSyntax}, {"a = -0", 4, api.ErrSyntax}, {"a = +1", 4, api.ErrSyntax}, {"a = -", 4, api.ErrSyntax},
		{"a = 2000-2-29", 4, api.ErrSyntax}, {"a = 1 2", 6, api.ErrSyntax}, {"a = 1 and", 9, api.ErrSyntax}, {"a = \"x\" \"y\"", 8, api.ErrSyntax}, {"a = ö", 4, api.ErrSyntax},
		{"a in", 4, api.ErrSyntax}, {"a in [", 6, api.ErrSyntax}, {"a in [1", 7, api.ErrSyntax}, {"a in [1 b]", 8, api.ErrSyntax}, {"a in [1 (]", 8, api.ErrSyntax}, {"a in [=]", 6, api.ErrSyntax}, {"a in [1] 2", 9, api.ErrSyntax}, {"a in x", 5, api.ErrSyntax},
		{"a in [1.5]", 6, api.ErrSyntax}, {"a = 2000-02-30.1", 4, api.ErrSyntax}, {"a = 99999999999999999999.", 4, api.ErrSyntax},
		{"a ! b", 2, api.ErrSyntax}, {"a !", 2, api.ErrSyntax}, {"!a", 0, api.ErrSyntax}, {"a # b", 2, api.ErrSyntax}, {"a; b", 1, api.ErrSyntax}, {"a = {}", 4, api.ErrSyntax}, {"a = }", 4, api.ErrSyntax}, {"a \x7f", 2, api.ErrSyntax}, {"a & b", 2, api.ErrSyntax}, {"a, b", 1, api.ErrSyntax}, {"'a'", 0, api.ErrSyntax},
	})
}

// P4.3: bytes that cannot be there, and strings.
func TestReadCondBytes(t *testing.T) {
	expectReadErrors(t, []readCase{
		{"a \x01", 2, api.ErrByte}, {"\x00", 0, api.ErrByte}, {"a\r\nand b", 1, api.ErrByte}, {"a and \x1f", 6, api.ErrByte}, {"a b \x01", 2, api.ErrSyntax}, {"a \x01 ! ", 2, api.ErrByte}, {"a ! \x01", 2, api.ErrSyntax}, {"a and b) \x01", 7, api.ErrSyntax},
		{"a = \"x", 4, api.ErrSyntax}, {"a = \"x\n\"", 4, api.ErrSyntax}, {"a = \"", 4, api.ErrSyntax}, {"a = \"x\\", 4, api.ErrSyntax}, {"a = \"x\\\"", 4, api.ErrSyntax}, {"a = \"\x01", 4, api.ErrSyntax}, {"\n\n a\n= \"x\\q", 7, api.ErrSyntax},
		{"a = \"x\\q\"", 6, api.ErrSyntax}, {"a = \"x\x01\"", 6, api.ErrByte}, {"a = \"\\q\x01\"", 5, api.ErrSyntax}, {"a = \"\x01\\q\"", 5, api.ErrByte}, {"a = \"\\\x01\"", 5, api.ErrSyntax}, {"\n a =\n\"x\r\"", 8, api.ErrByte},
		{"\"\x01\"", 1, api.ErrByte}, {"a \"\\q\"", 3, api.ErrSyntax}, {"a in \"\\q\"", 6, api.ErrSyntax}, {"a in [\"x\" \"\\q\"]", 11, api.ErrSyntax}, {"a in [\"\x02\"]", 7, api.ErrByte}, {"a in [1 \x02]", 8, api.ErrByte}, {"a begins [\x01]", 9, api.ErrKind},
		{"(a = 1 \x01)", 7, api.ErrByte}, {"not \x01", 4, api.ErrByte}, {"a = \x01", 4, api.ErrByte}, {"(\x01", 1, api.ErrByte}, {"(a) \x01", 4, api.ErrByte}, {"a or \x01", 5, api.ErrByte}, {"a in [1] \x01", 9, api.ErrByte},
	})
}

// P4.3: routes, ranges and kinds.
func TestReadCondValues(t *testing.T) {
	long := routeOf(conf.MaxRoute + 1)
	expectReadErrors(t, []readCase{
		{"a..b", 0, api.ErrPath}, {"a. = 1", 0, api.ErrPath}, {".a", 0, api.ErrPath}, {"A", 0, api.ErrPath}, {"x and -1", 6, api.ErrPath}, {"ö", 0, api.ErrPath}, {"10000", 0, api.ErrPath}, {"01", 0, api.ErrPath}, {"_", 0, api.ErrPath}, {"And", 0, api.ErrPath}, {"Z", 0, api.ErrPath}, {"\x80", 0, api.ErrPath}, {"a\x80", 0, api.ErrPath},
		{" " + long, 1, api.ErrPath}, {wide(api.MaxPart + 1), 0, api.ErrPath}, {"A \x01", 0, api.ErrPath}, {"a..b = [", 0, api.ErrPath}, {"a and (not B", 11, api.ErrPath},
		{"a = 2023-02-30", 4, api.ErrRange}, {"a = 1969-12-31", 4, api.ErrRange}, {"a = 2200-01-01", 4, api.ErrRange}, {"a = 9223372036854775808", 4, api.ErrRange}, {"a < -9223372036854775809", 4, api.ErrRange}, {"a in [1 2023-13-01]", 8, api.ErrRange}, {"a in 2023-13-01", 5, api.ErrRange}, {"a begins 9223372036854775808 \x01", 9, api.ErrRange},
		{"a = [1]", 4, api.ErrKind}, {"a = [", 4, api.ErrKind}, {"a = [\x01", 4, api.ErrKind}, {"a has [\"x\"]", 6, api.ErrKind}, {"a != [", 5, api.ErrKind}, {"a < [", 4, api.ErrKind}, {"a <= [", 5, api.ErrKind}, {"a > [", 4, api.ErrKind}, {"a >= [", 5, api.ErrKind},
		{"a in 1", 5, api.ErrKind}, {"a in nil", 5, api.ErrKind}, {"a in yes", 5, api.ErrKind}, {"a in \"x\"", 5, api.ErrKind}, {"a in 2000-01-01", 5, api.ErrKind},
		{"a begins 1", 9, api.ErrKind}, {"a begins nil", 9, api.ErrKind}, {"a begins [\"x\"]", 9, api.ErrKind}, {"a begins no", 9, api.ErrKind}, {"a begins 2000-01-01", 9, api.ErrKind},
		{"a in [[1]]", 5, api.ErrKind}, {"a in [1 2 [", 5, api.ErrKind}, {"a in [1\n\"x\" [\x01", 5, api.ErrKind}, {"a in [x [", 6, api.ErrSyntax}, {"a in [\x01 [", 6, api.ErrByte}, {"(b) or a in [[", 12, api.ErrKind},
	})
	if c, at, e := list.ReadCond(" " + routeOf(conf.MaxRoute)); e != api.OK || at != 0 || len(c.Route) != conf.MaxRoute {
		t.Errorf("the longest route: error %d at %d", e, at)
	}
}

// P4.3: what is too large, and what CheckCond says at the end.
func TestReadCondSize(t *testing.T) {
	ors := func(n int) string { return strings.TrimSuffix(strings.Repeat("a or ", n), " or ") }
	ones := func(n int) string { return "b in [" + strings.Repeat("1 ", n) + "]" }
	expectReadErrors(t, []readCase{
		{strings.Repeat(" ", list.MaxCondText+1), 0, api.ErrLarge}, {"\x01" + wide(list.MaxCondText), 0, api.ErrLarge}, {strings.Repeat(" ", list.MaxCondText), list.MaxCondText, api.ErrSyntax},
		{strings.Repeat("not ", list.MaxLevels) + "a", 0, api.ErrDeep}, {" not " + strings.Repeat("not(", list.MaxLevels) + "a" + strings.Repeat(")", list.MaxLevels), 0, api.ErrDeep}, {"b and " + ors(list.MaxCond), 0, api.ErrLarge},
		{ors(list.MaxCond), 0, api.ErrLarge}, {ors(list.MaxCond) + " or", len(ors(list.MaxCond)) + 3, api.ErrSyntax}, {"x and " + ones(conf.MaxValues), 0, api.ErrLarge},
		{strings.Repeat("(", list.MaxCondText), list.MaxCondText, api.ErrSyntax}, {strings.Repeat("not ", list.MaxCondText/4), list.MaxCondText, api.ErrSyntax}, {strings.Repeat("not ", 1000) + "a", 0, api.ErrLarge},
	})
	for _, s := range []string{ors(list.MaxCond - 1), ones(conf.MaxValues - 1), strings.Repeat("not ", list.MaxLevels-1) + "a", strings.Repeat("(", 2499) + "a" + strings.Repeat(")", 2499), "a" + strings.Repeat(" ", list.MaxCondText-1), "a=\"" + wide(list.MaxCondText-4) + "\""} {
		if _, at, e := list.ReadCond(s); e != api.OK || at != 0 {
			t.Errorf("%s: error %d at %d", short(s), e, at)
		}
	}
}

// P4.3: whatever is read can be written, and is read again, if it is not too large.
func TestReadCondAgain(t *testing.T) {
	r := rand.New(rand.NewSource(2))
	pieces := []string{"a", "b.0", "and", "or", "not", "(", ")", "=", "<=", "has", "in", "begins", "[", "]", "\"x\"", "1", "2000-01-01", "nil", " ", "\n", "A", "!", "\x01", "\"", "\\", "."}
	read := 0
	for range 200_000 {
		var b strings.Builder
		for range r.Intn(9) {
			b.WriteString(pieces[r.Intn(len(pieces))])
			if r.Intn(3) > 0 {
				b.WriteByte(' ')
			}
		}
		c, at, e := list.ReadCond(b.String())
		if e != api.OK {
			if at < 0 || at > b.Len() || show(c) != show(list.Cond{}) {
				t.Fatalf("%q: error %d at %d", b.String(), e, at)
			}
			continue
		}
		read++
		s, e := list.CondString(c)
		if again, _, e2 := list.ReadCond(s); e != api.OK || e2 != api.OK || show(again) != show(c) {
			t.Fatalf("%q: %q, errors %d and %d", b.String(), s, e, e2)
		}
	}
	if read < 1000 {
		t.Errorf("only %d could be read", read)
	}
}
