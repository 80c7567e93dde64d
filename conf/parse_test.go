package conf_test

import (
	"fmt"
	"math"
	"math/rand"
	"slices"
	"strings"
	"testing"

	"masthead/api"
	"masthead/conf"
)

// expectParse checks what Parse makes of strings without errors.
func expectParse(t *testing.T, want map[string]api.Value) {
	t.Helper()
	for s, w := range want {
		v, pos, e := conf.Parse(s)
		expect(t, "Parse("+short(s)+")", v, e, w, api.OK)
		if pos != (conf.Pos{}) {
			t.Errorf("Parse(%s) has a position: %v", short(s), pos)
		}
		if e := conf.Check(v); e != api.OK {
			t.Errorf("Parse(%s) is not valid: %d", short(s), e)
		}
	}
}

type parseError struct {
	s            string
	line, column int
	want         api.Errno
}

// expectParseErrors checks errors and their positions.
func expectParseErrors(t *testing.T, cases []parseError) {
	t.Helper()
	for _, c := range cases {
		v, pos, e := conf.Parse(c.s)
		expectError(t, "Parse("+short(c.s)+")", v, e, c.want)
		if want := (conf.Pos{Line: c.line, Column: c.column}); pos != want {
			t.Errorf("Parse(%s): error %d at %v, want %v", short(c.s), e, pos, want)
		}
	}
}

// P2.3: entries, and what is between them.
func TestParseEntries(t *testing.T) {
	one, two := table("a", num(1)), table("a", num(1), "b", num(2))
	expectParse(t, map[string]api.Value{
		"": table(), "\n": table(), ";": table(), " \t": table(), "# only a comment": table(), "\n;\n ; # x\n\t;": table(),
		"a 1": one, "a 1\n": one, "\n\n;a 1": one, "a 1;;\n;": one, "\ta\t1 ": one, "a 1# comment": one, "a 1 #": one, "# x\na 1 # y\n# z": one,
		"a 1\nb 2": two, "a 1;b 2": two, "b 2;a 1": two, "a 1 ; ; # x\n\n ;b 2 ;": two, "a 1#;c 3\nb 2": two,
		"a nil": table("a", null()), "nil nil": table("nil", null()), "no yes;yes no": table("no", truth(true), "yes", truth(false)),
		"a-b 1;a 1;a_b 1;a1 1;ab 1":             table("a", num(1), "a-b", num(1), "a1", num(1), "a_b", num(1), "ab", num(1)),
		strings.Repeat("k", api.MaxPart) + " 1": table(strings.Repeat("k", api.MaxPart), num(1)),
	})
}

// P2.3: words.
func TestParseWords(t *testing.T) {
	expectParse(t, map[string]api.Value{
		"a yes": table("a", truth(true)), "a no": table("a", truth(false)), "a 0": table("a", num(0)), "a -1": table("a", num(-1)), "a 10": table("a", num(10)),
		"a 9223372036854775807": table("a", num(math.MaxInt)), "a -9223372036854775808": table("a", num(math.MinInt)),
		"a 1970-01-01": table("a", day(0)), "a 2000-02-29": table("a", day(11016)), "a 2199-12-31": table("a", day(api.MaxDay)),
	})
	for _, word := range []string{"01", "-0", "00", "-01", "-", "--1", "1-", "1a", "0x1", "1_000", "Yes", "YES", "true", "null", "Nil", "a", "_", "ö", "1e3", "2000-1-01", "2000-01-1", "02000-01-01", "2000-01-01-", "2000_01_01", "2000-01-0a", "-2000-01-01", "20000101x", "2000-01-", "x000-01-01"} {
		expectParseErrors(t, []parseError{{"a " + word, 1, 3, api.ErrSyntax}, {"b [\n1 " + word + "]", 2, 3, api.ErrSyntax}})
	}
	for _, word := range []string{"9223372036854775808", "-9223372036854775809", "18446744073709551616", strings.Repeat("9", 1000), "2023-02-29", "2100-02-29", "2000-04-31", "2000-00-01", "2000-13-01", "2000-01-00", "2000-01-32", "1969-12-31", "2200-01-01", "0000-00-00", "9999-99-99"} {
		expectParseErrors(t, []parseError{{"a " + word, 1, 3, api.ErrRange}, {"b [\n1 " + word + "]", 2, 3, api.ErrRange}})
	}
}

// P2.3: strings.
func TestParseStrings(t *testing.T) {
	expectParse(t, map[string]api.Value{
		`a ""`: table("a", str("")), `a "x"`: table("a", str("x")), `a"x"`: table("a", str("x")), `a "x";b"y"`: table("a", str("x"), "b", str("y")),
		`a "\n\t\"\\"`: table("a", str("\n\t\"\\")), `a "\\n"`: table("a", str("\\n")), `a "\\" # "`: table("a", str("\\")), "a \"\t\"": table("a", str("\t")),
		`a "# ; [ ] { } ${x} nil 1"`: table("a", str("# ; [ ] { } ${x} nil 1")), "a \"\x7f\x80\xff\"": table("a", str("\x7f\x80\xff")),
		`a "` + strings.Repeat("x", conf.MaxString) + `"`:  table("a", strLen(conf.MaxString)),
		`a "` + strings.Repeat(`\"`, conf.MaxString) + `"`: table("a", str(strings.Repeat(`"`, conf.MaxString))),
	})
	expectParseErrors(t, []parseError{
		{`a "`, 1, 3, api.ErrSyntax}, {`a "x`, 1, 3, api.ErrSyntax}, {"a \"x\n\"", 1, 3, api.ErrSyntax}, {`a "x\"`, 1, 3, api.ErrSyntax}, {`a "x\`, 1, 3, api.ErrSyntax}, {"a \"x\\\n\"", 1, 3, api.ErrSyntax}, {"a \"\x01\\q\n\"", 1, 3, api.ErrSyntax},
		{`a "x\q"`, 1, 5, api.ErrSyntax}, {`a "\N"`, 1, 4, api.ErrSyntax}, {`a "\ "`, 1, 4, api.ErrSyntax}, {`a "\0"`, 1, 4, api.ErrSyntax}, {"a \"\\\x01\"", 1, 4, api.ErrSyntax}, {"a \"\\r\"", 1, 4, api.ErrSyntax},
		{"a \"x\x01\"", 1, 5, api.ErrByte}, {"a \"\r\"", 1, 4, api.ErrByte}, {"a \"\x00\"", 1, 4, api.ErrByte}, {"a \"\x1f\"", 1, 4, api.ErrByte}, {"a \"x\x01\\q\"", 1, 5, api.ErrByte}, {"a \"\\q\x01\"", 1, 4, api.ErrSyntax},
		{`a "` + strings.Repeat("x", conf.MaxString+1) + `"`, 1, 3, api.ErrLarge}, {`a ["` + strings.Repeat(`\n`, conf.MaxString+1) + `"]`, 1, 4, api.ErrLarge},
	})
}

// P2.3: lists and tables, and line feeds in them.
func TestParseInner(t *testing.T) {
	one := list(num(1), num(2))
	expectParse(t, map[string]api.Value{
		"a []": table("a", list()), "a[ ]": table("a", list()), "a [\n\n]": table("a", list()), "a [# x ]\n]": table("a", list()),
		"a [1 2]": table("a", one), "a [\n1\n\n2\n]": table("a", one), "a [ 1 # x\n\t2 # ]\n]": table("a", one), "a [1 2];b 1": table("a", one, "b", num(1)),
		`a [1"x"2"y"[]"z"{}nil]`: table("a", list(num(1), str("x"), num(2), str("y"), list(), str("z"), table(), null())),
		"a [[1][2]]":             table("a", list(list(num(1)), list(num(2)))),
		"a {}":                   table("a", table()), "a{\n;\n;}": table("a", table()), "a {# x }\n}": table("a", table()),
		"a {b 1}": table("a", table("b", num(1))), "a {;b 1;\n}": table("a", table("b", num(1))), "a {\nb 1\nc 2\n}": table("a", table("b", num(1), "c", num(2))), "a {c 2;b 1}; d 1": table("a", table("b", num(1), "c", num(2)), "d", num(1)),
		"a {a 1; b {a 2}}":            table("a", table("a", num(1), "b", table("a", num(2)))),
		"a [{b 1\nc 2}\n{b 3}\n\n]":   table("a", list(table("b", num(1), "c", num(2)), table("b", num(3)))),
		"a [{b [\n1\n2] # x\n\nc 2}]": table("a", list(table("b", one, "c", num(2)))),
	})
	expectParseErrors(t, []parseError{
		{"a [{b\n1}]", 1, 6, api.ErrSyntax}, {"a [\n{b [1] c 2}]", 2, 8, api.ErrSyntax}, {"a [1;2]", 1, 5, api.ErrSyntax}, {"a [;]", 1, 4, api.ErrSyntax}, {"a [1}", 1, 5, api.ErrSyntax}, {"a {b 1]", 1, 7, api.ErrSyntax},
		{"a {1}", 1, 4, api.ErrSyntax}, {"a {b}", 1, 5, api.ErrSyntax}, {"a {{}}", 1, 4, api.ErrSyntax}, {"a {b 1 c 2}", 1, 8, api.ErrSyntax}, {"a {} {}", 1, 6, api.ErrSyntax}, {"a {b\n}", 1, 5, api.ErrSyntax},
	})
}

// P2.3: tokens, and ends, that cannot be there.
func TestParseTokens(t *testing.T) {
	expectParseErrors(t, []parseError{
		{"title \"A\" # first\ntags [1 2; 3]", 2, 10, api.ErrSyntax},
		{"1", 1, 1, api.ErrSyntax}, {"A 1", 1, 1, api.ErrSyntax}, {"aB 1", 1, 1, api.ErrSyntax}, {"-a 1", 1, 1, api.ErrSyntax}, {"_ 1", 1, 1, api.ErrSyntax}, {"ä 1", 1, 1, api.ErrSyntax}, {"aä 1", 1, 1, api.ErrSyntax}, {`"a" 1`, 1, 1, api.ErrSyntax},
		{strings.Repeat("k", api.MaxPart+1) + " 1", 1, 1, api.ErrSyntax}, {"[", 1, 1, api.ErrSyntax}, {"]", 1, 1, api.ErrSyntax}, {"{", 1, 1, api.ErrSyntax}, {"}", 1, 1, api.ErrSyntax}, {"a 1}", 1, 4, api.ErrSyntax}, {"a 1;}", 1, 5, api.ErrSyntax},
		{"a 1 b 2", 1, 5, api.ErrSyntax}, {"a 1 2", 1, 5, api.ErrSyntax}, {`a 1"x"`, 1, 4, api.ErrSyntax}, {"a [] b 2", 1, 6, api.ErrSyntax}, {"a ]", 1, 3, api.ErrSyntax}, {"a }", 1, 3, api.ErrSyntax},
		{"a", 1, 2, api.ErrSyntax}, {"a ", 1, 3, api.ErrSyntax}, {"a # x", 1, 6, api.ErrSyntax}, {"a\n1", 1, 2, api.ErrSyntax}, {"a # x\n1", 1, 6, api.ErrSyntax}, {"a;", 1, 2, api.ErrSyntax}, {"a 1\nb", 2, 2, api.ErrSyntax}, {"a 1\nb\n", 2, 2, api.ErrSyntax},
		{"a [", 1, 4, api.ErrSyntax}, {"a [\n", 2, 1, api.ErrSyntax}, {"a [\n\n ", 3, 2, api.ErrSyntax}, {"a [1 # ]", 1, 9, api.ErrSyntax}, {"a {", 1, 4, api.ErrSyntax}, {"a {\n", 2, 1, api.ErrSyntax}, {"a {b 1", 1, 7, api.ErrSyntax}, {"a {b", 1, 5, api.ErrSyntax}, {"a [{}", 1, 6, api.ErrSyntax},
		{"a \"ä\" !", 1, 8, api.ErrSyntax}, {"# ä\na 1 # ä\nb 1 2", 3, 5, api.ErrSyntax},
	})
}

// P2.3: bytes that cannot be between tokens, or in a comment.
func TestParseBytes(t *testing.T) {
	for c := range 128 {
		s := string([]byte{byte(c)})
		want := api.ErrSyntax
		if c < 32 {
			want = api.ErrByte
		}
		if !strings.Contains("\t\n #;\"[]{}-_0123456789abcdefghijklmnopqrstuvwxyz", strings.ToLower(s)) {
			expectParseErrors(t, []parseError{{s, 1, 1, want}, {"a 1 " + s, 1, 5, want}, {"a" + s + "1", 1, 2, want}, {"a [1\n" + s + "]", 2, 1, want}, {"b {\n a " + s + "1}", 2, 4, want}})
		}
	}
	for c := range 256 {
		s := string([]byte{byte(c)})
		if c >= 128 || strings.Contains("-_abcdefghijklmnopqrstuvwxyz", strings.ToLower(s)) {
			expectParseErrors(t, []parseError{{"a 1" + s, 1, 3, api.ErrSyntax}, {"a 1" + s + "1", 1, 3, api.ErrSyntax}})
		}
		if c >= 32 || c == '\t' || c == '\n' {
			expectParse(t, map[string]api.Value{"a 1 #" + s: table("a", num(1)), "b [#" + s + "\n]": table("b", list())})
		} else {
			expectParseErrors(t, []parseError{{"a 1 #" + s, 1, 6, api.ErrByte}, {"a 1\n# x" + s + "\n", 2, 4, api.ErrByte}, {"a [1 # " + s + "\n]", 1, 8, api.ErrByte}})
		}
	}
}

// P2.3: the limits.
func TestParseLimits(t *testing.T) {
	keys := func(n int) string {
		var b strings.Builder
		for i := range n {
			fmt.Fprintf(&b, "k%d 1\n", i)
		}
		return b.String()
	}
	full := "a [" + strings.Repeat("1 ", conf.MaxValues-2)
	expectParse(t, map[string]api.Value{
		"a [" + strings.Repeat("[", 6) + strings.Repeat("]", 7):      table("a", nested(6, list())),
		"a " + strings.Repeat("[", 6) + "1" + strings.Repeat("]", 6): table("a", nested(6, num(1))),
		full + "]": table("a", list(many(conf.MaxValues-2, num(1))...)),
		"a 1" + strings.Repeat(" ", conf.MaxText-3): table("a", num(1)),
	})
	if v := settings(t, keys(conf.MaxValues-1)); len(v.Keys) != conf.MaxValues-1 {
		t.Errorf("%d keys", len(v.Keys))
	}
	deep := "a " + strings.Repeat("[", 7)
	expectParseErrors(t, []parseError{
		{deep + "[", 1, 10, api.ErrDeep}, {deep + "{", 1, 10, api.ErrDeep}, {deep + "1", 1, 10, api.ErrDeep}, {deep + "nil", 1, 10, api.ErrDeep}, {deep + "\n \"x\"", 2, 2, api.ErrDeep},
		{strings.Repeat("a {", 7) + "a 1", 1, 24, api.ErrDeep}, {strings.Repeat("a {", 7) + "a", 1, 23, api.ErrSyntax},
		{full + "\n1]", 2, 1, api.ErrLarge}, {full + "\n[", 2, 1, api.ErrLarge}, {full + "]\nb 1", 2, 3, api.ErrLarge}, {full + "]\nb {", 2, 3, api.ErrLarge}, {full + "]\nb", 2, 2, api.ErrSyntax}, {keys(conf.MaxValues), conf.MaxValues, 6, api.ErrLarge},
		{strings.Repeat("x", conf.MaxText+1), 0, 0, api.ErrLarge}, {strings.Repeat("\x01", conf.MaxText+1), 0, 0, api.ErrLarge}, {strings.Repeat(" ", conf.MaxText+1), 0, 0, api.ErrLarge}, {strings.Repeat("\n", conf.MaxText), 0, 0, api.OK},
	})
}

// P2.3: keys that a table has already.
func TestParseTwice(t *testing.T) {
	expectParse(t, map[string]api.Value{"a {a 1}\nb [{a 1} {a 1}]": table("a", table("a", num(1)), "b", list(table("a", num(1)), table("a", num(1))))})
	expectParseErrors(t, []parseError{
		{"a 1\na 2", 2, 1, api.ErrTwice}, {"a 1;b 2;a 3", 1, 9, api.ErrTwice}, {"a nil\na nil", 2, 1, api.ErrTwice}, {"b {a 1; a 2}", 1, 9, api.ErrTwice}, {"a {b 1}\nb 1; a", 2, 6, api.ErrTwice},
		{"a 1 a 2", 1, 5, api.ErrSyntax}, {"a 1;a \x01", 1, 5, api.ErrTwice},
	})
}

// P2.3: the first error from token to token, and the first one of several at a token.
func TestParseErrorOrder(t *testing.T) {
	deep, long := "a "+strings.Repeat("[", 7), `"`+strings.Repeat("x", conf.MaxString+1)+`"`
	full := deep + strings.Repeat("1 ", conf.MaxValues)
	expectParseErrors(t, []parseError{
		{"a 1 2 \x01", 1, 5, api.ErrSyntax}, {"a 1 \x01 2", 1, 5, api.ErrByte}, {"a 1 ! \x01", 1, 5, api.ErrSyntax}, {"a 1 # \x01\n!", 1, 7, api.ErrByte}, {"a 1 # !\n\x01", 2, 1, api.ErrByte},
		{"a 1 \x01\"x", 1, 5, api.ErrByte}, {"a 1 \"\x01\"", 1, 6, api.ErrByte}, {"a 1 \"\\q\"", 1, 6, api.ErrSyntax}, {"a 1 \"\x01", 1, 5, api.ErrSyntax}, {"a \x01", 1, 3, api.ErrByte}, {"a [1 # \x01", 1, 8, api.ErrByte},
		{"a 1 " + long, 1, 5, api.ErrSyntax}, {deep + "A", 1, 10, api.ErrSyntax}, {deep + "9999-99-99", 1, 10, api.ErrRange}, {deep + long, 1, 10, api.ErrLarge}, {deep + ";", 1, 10, api.ErrSyntax}, {full, 1, 10, api.ErrDeep},
		{"a 9999-99-99 A", 1, 3, api.ErrRange}, {"a 01 9999-99-99", 1, 3, api.ErrSyntax}, {"a [" + strings.Repeat("1 ", conf.MaxValues-2) + "01", 1, 4 + 2*(conf.MaxValues-2), api.ErrSyntax}, {"a [" + strings.Repeat("1 ", conf.MaxValues-2) + long, 1, 4 + 2*(conf.MaxValues-2), api.ErrLarge},
	})
}

// P2.4: what is written.
func TestPrint(t *testing.T) {
	for want, v := range map[string]api.Value{
		"":                     table(),
		"a nil\nb yes\nc no\n": table("a", null(), "b", truth(true), "c", truth(false)),
		"a 0\nb -1\nc 10\n":    table("a", num(0), "b", num(-1), "c", num(10)),
		"a 9223372036854775807\nb -9223372036854775808\n": table("a", num(math.MaxInt), "b", num(math.MinInt)),
		"a 1970-01-01\nb 2199-12-31\nc 2024-02-29\n":      table("a", day(0), "b", day(api.MaxDay), "c", day(19782)),
		`a "` + `\n\t\"\\` + "\xff\x7f#;" + `"` + "\n":    table("a", str("\n\t\"\\\xff\x7f#;")),
		"a \"\"\nb []\nc {}\n":                            table("a", str(""), "b", list(), "c", table()),
		"a [1 \"x\" [nil []] {}]\n":                       table("a", list(num(1), str("x"), list(null(), list()), table())),
		"a {\n  b 1\n  c {\n    d []\n  }\n}\ne 1\n":      table("a", table("b", num(1), "c", table("d", list())), "e", num(1)),
		"a [{\n  b 1\n} {\n  c [{\n    d 1\n  } 2]\n}]\n": table("a", list(table("b", num(1)), table("c", list(table("d", num(1)), num(2))))),
	} {
		if s, e := conf.Print(v); e != api.OK || s != want {
			t.Errorf("Print(%s)\n got %q, error %d\nwant %q", show(v), s, e, want)
		}
		if v2, _, e := conf.Parse(want); e != api.OK || !same(v, v2) {
			t.Errorf("Parse(%q) is %s, error %d", want, show(v2), e)
		}
	}
}

// P2.4: errors.
func TestPrintErrors(t *testing.T) {
	// lines is a table of lines with three bytes, two quotation marks and a string each.
	lines := func(l ...string) api.Value {
		v := table()
		for i, s := range l {
			v.Keys, v.Items = append(v.Keys, string([]byte{'a' + byte(i)})), append(v.Items, str(s))
		}
		return v
	}
	line := strings.Repeat("x", conf.MaxText/10-5)
	full := lines(slices.Repeat([]string{line}, 10)...)
	oneMore := lines(append(slices.Repeat([]string{line}, 9), line+"x")...)
	escapes := lines(slices.Repeat([]string{strings.Repeat("\n", conf.MaxString)}, 5)...)
	for _, c := range []struct {
		name string
		v    api.Value
		want api.Errno
	}{
		{"full", full, api.OK}, {"one byte more", oneMore, api.ErrLarge}, {"two bytes for one", escapes, api.ErrLarge},
		{"nil", null(), api.ErrKind}, {"a number", num(1), api.ErrKind}, {"a string", str("a"), api.ErrKind}, {"a list", list(), api.ErrKind},
		{"not valid", list(day(-1)), api.ErrRange}, {"too deep", nested(8, table()), api.ErrDeep}, {"not valid in a table", table("a", str("\x01")), api.ErrByte},
	} {
		s, e := conf.Print(c.v)
		if e != c.want || (e != api.OK) != (s == "") {
			t.Errorf("%s: %d bytes, error %d, want %d", c.name, len(s), e, c.want)
		}
	}
	if s, _ := conf.Print(full); len(s) != conf.MaxText {
		t.Errorf("%d bytes", len(s))
	}
}

// P2.4: what is printed is read again, and what is read can be printed.
func TestPrintAndParse(t *testing.T) {
	r := rand.New(rand.NewSource(2))
	for range 20_000 {
		v := randomTable(r, conf.MaxDepth)
		s, e := conf.Print(v)
		if e != api.OK {
			t.Fatalf("Print(%s): error %d", show(v), e)
		}
		if back, pos, e := conf.Parse(s); e != api.OK || !same(v, back) || pos != (conf.Pos{}) {
			t.Fatalf("Parse(%q)\n got %s, error %d at %v\nwant %s", s, show(back), e, pos, show(v))
		}
	}
}

// randomSettings is a string of pieces of the language of settings.
func randomSettings(r *rand.Rand) string {
	pieces := []string{"a ", "b ", "c ", "d", "e", " ", "\n", "\n", ";", "1", "-5 ", "2000-01-01", "\"x\"", "\"", "\\n", "[", "]", "[", "]", "{", "}", "{", "}", "# x", "yes", "nil", "!", "\x01", "ö", "a 1\n", "b [1 2]\n", "c {a 1}\n", "01"}
	var b strings.Builder
	for range r.Intn(14) {
		b.WriteString(pieces[r.Intn(len(pieces))])
	}
	return b.String()
}

// P2.3 and P2.4: what Parse returns is valid and can be printed; errors have positions in the string.
func TestParseRandom(t *testing.T) {
	r := rand.New(rand.NewSource(3))
	good := 0
	for range 200_000 {
		s := randomSettings(r)
		v, pos, e := conf.Parse(s)
		if e != api.OK {
			lines := strings.Split(s, "\n")
			if pos.Line < 1 || pos.Line > len(lines) || pos.Column < 1 || pos.Column > len(lines[pos.Line-1])+1 || !same(v, null()) {
				t.Fatalf("Parse(%q): error %d at %v, beside it %s", s, e, pos, show(v))
			}
			continue
		}
		good++
		text, e := conf.Print(v)
		if conf.Check(v) != api.OK || v.Kind != api.Table || e != api.OK || pos != (conf.Pos{}) {
			t.Fatalf("Parse(%q) is %s, at %v; Print has error %d", s, show(v), pos, e)
		}
		if back, _, e := conf.Parse(text); e != api.OK || !same(back, v) {
			t.Fatalf("Parse(%q) is %s, not %s", text, show(back), show(v))
		}
	}
	if good < 5000 {
		t.Errorf("only %d strings were right", good)
	}
}
