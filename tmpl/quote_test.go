package tmpl_test

import (
	"encoding/json"
	"math"
	"math/rand"
	"strings"
	"testing"

	"masthead/api"
	"masthead/mark"
	"masthead/tmpl"
)

// P5.11: strings as parts of addresses.
func TestEscapeAddr(t *testing.T) {
	var kept, all, coded strings.Builder
	for c := range 256 {
		all.WriteByte(byte(c))
		if strings.ContainsRune("abcdefghijklmnopqrstuvwxyzABCDEFGHIJKLMNOPQRSTUVWXYZ0123456789-_.~", rune(c)) {
			kept.WriteByte(byte(c))
			coded.WriteByte(byte(c))
		} else {
			coded.WriteString("%" + strings.ToUpper(hex(c)))
		}
	}
	for _, c := range []struct {
		s     string
		first bool
		want  string
	}{
		{"", true, ""},
		{"", false, ""},
		{kept.String(), true, kept.String()},
		{kept.String(), false, kept.String()},
		{all.String(), false, coded.String()},
		{"/a b", true, "/a%20b"},
		{"/a b", false, "%2Fa%20b"},
		{"/a?b=c&d#e%20+,@:", true, "/a?b=c&amp;d#e%20+,@:"},
		{"?b=c&d#e%20+,@:", false, "%3Fb%3Dc%26d%23e%2520%2B%2C%40%3A"},
		{"/<>\"'\n\xff", true, "/%3C%3E%22%27%0A%FF"},
		{"/!$()*;[]\\^`{|}", true, "/%21%24%28%29%2A%3B%5B%5D%5C%5E%60%7B%7C%7D"},
		{"http://a.b/", true, "http://a.b/"},
		{"HTTPS:x", true, "HTTPS:x"},
		{"MailTo:a@b", true, "MailTo:a@b"},
		{"javascript:x", true, "#"},
		{"javascript:x", false, "javascript%3Ax"},
		{"data:x", true, "#"},
		{":x", true, "#"},
		{" http:x", true, "#"},
		{"http :x", true, "#"},
		{"a/b:c", true, "a/b:c"},
		{"a?b:c", true, "a?b:c"},
		{"a#b:c", true, "a#b:c"},
		{"a:b/c", true, "#"},
		{"a", true, "a"},
		{"java\nscript:x", true, "#"},
		{"\x01javascript:x", true, "#"},
	} {
		if got := tmpl.EscapeAddr(c.s, c.first); got != c.want {
			t.Errorf("EscapeAddr(%q, %v): %q, want %q", c.s, c.first, got, c.want)
		}
	}
}

// hex is a byte as two small digits.
func hex(c int) string { return string("0123456789abcdef"[c/16]) + string("0123456789abcdef"[c%16]) }

// P5.11: an address that is inserted first has # for the same schemes as a Dest has.
func TestSchemes(t *testing.T) {
	r := rand.New(rand.NewSource(5))
	pieces := []string{"http", "HTTPS", "mailto", "ftp", ":", "/", "?", "#", "a", "."}
	for range 3000 {
		dest := ""
		for range 1 + r.Intn(5) {
			dest += pieces[r.Intn(len(pieces))]
		}
		html, e := mark.HTML([]mark.Node{{Kind: mark.Para, Kids: []mark.Node{{Kind: mark.Link, Dest: dest, Kids: []mark.Node{{Kind: mark.Str, Text: "x"}}}}}})
		if want := "<p><a href=\"" + tmpl.EscapeAddr(dest, true) + "\">x</a></p>\n"; e != api.OK || html != want {
			t.Fatalf("%q, error %d; want %q", html, e, want)
		}
	}
}

// P5.11: values as constants.
func TestQuote(t *testing.T) {
	for _, c := range []struct {
		v    api.Value
		want string
		e    api.Errno
	}{
		{null(), "null", api.OK},
		{truth(true), "true", api.OK},
		{truth(false), "false", api.OK},
		{num(-5), "-5", api.OK},
		{num(math.MinInt), "-9223372036854775808", api.OK},
		{str(""), `""`, api.OK},
		{str("a\"b\\c/`"), `"a\"b\\c/` + "`\"", api.OK},
		{str("\x00\n\x1f <>&'\x7f\xff"), `"\u0000\u000a\u001f \u003c\u003e\u0026\u0027` + "\x7f\xff\"", api.OK},
		{safe("<b>"), `"\u003cb\u003e"`, api.OK},
		{day(0), `"1970-01-01"`, api.OK},
		{day(-1), "", api.ErrRange},
		{day(api.MaxDay + 1), "", api.ErrRange},
		{fact("a"), "", api.ErrKind},
		{other(9), "", api.ErrKind},
		{other(-1), "", api.ErrKind},
		{listOf(), "[]", api.OK},
		{table(), "{}", api.OK},
		{listOf(null(), num(1), listOf(str("a"))), `[null,1,["a"]]`, api.OK},
		{table("a", num(1), "b<", table("c", null())), `{"a":1,"b\u003c":{"c":null}}`, api.OK},
		{api.Value{Kind: api.Table, Items: []api.Value{num(1), num(2)}, Keys: []string{"b"}}, `{"b":1,"":2}`, api.OK},
		{api.Value{Kind: api.Table, Items: []api.Value{num(1)}, Keys: []string{"b", "a"}}, `{"b":1}`, api.OK},
		{listOf(fact("a"), day(-1)), "", api.ErrKind},
		{listOf(day(-1), fact("a")), "", api.ErrRange},
		{listOf(listOf(day(-1)), nested(12, null())), "", api.ErrRange},
		{listOf(nested(12, null()), day(-1)), "", api.ErrDeep},
		{nested(12, fact("a")), "", api.ErrKind},
		{nested(12, num(1)), strings.Repeat("[", 12) + "1" + strings.Repeat("]", 12), api.OK},
		{nested(12, listOf()), "", api.ErrDeep},
		{nested(12, table()), "", api.ErrDeep},
		{nested(13, fact("a")), "", api.ErrDeep},
		{table("a", nested(12, num(1))), "", api.ErrDeep},
		{nested(100_000, num(1)), "", api.ErrDeep},
		{str(wide(api.MaxOut + 1)), `"` + wide(api.MaxOut+1) + `"`, api.OK},
	} {
		got, e := tmpl.Quote(c.v)
		expect(t, show(c.v), got, e, c.want, c.e)
	}
}

// P5.11: constants as values; nothing is read that Quote does not write.
func TestUnquote(t *testing.T) {
	for s, want := range map[string]api.Value{
		"null":                                   null(),
		"true":                                   truth(true),
		"false":                                  truth(false),
		"0":                                      num(0),
		"-12":                                    num(-12),
		"9223372036854775807":                    num(math.MaxInt),
		"-9223372036854775808":                   num(math.MinInt),
		`""`:                                     str(""),
		`"a\"\\/\u0000\u001f\u000a\u003c\u0027"`: str("a\"\\/\x00\x1f\n<'"),
		"\"\x7f\xff é\"":                         str("\x7f\xff é"),
		`"\\u003c"`:                              str(`\u003c`),
		"[]":                                     listOf(),
		"{}":                                     table(),
		`[null,1,["a"],{}]`:                      listOf(null(), num(1), listOf(str("a")), table()),
		`{"a":1,"b\u003c":{"":[]}}`:              table("a", num(1), "b<", table("", listOf())),
		`{"b":1,"a":2,"b":3}`:                    table("b", num(1), "a", num(2), "b", num(3)),
		strings.Repeat("[", 12) + "1" + strings.Repeat("]", 12): nested(12, num(1)),
		`"` + wide(api.MaxOut-2) + `"`:                          str(wide(api.MaxOut - 2)),
	} {
		got, e := tmpl.Unquote(s)
		expect(t, s, got, e, want, api.OK)
	}
	for _, s := range []string{
		"", " ", "nul", "nulll", "null ", " null", "Null", "True", "truefalse", "undefined",
		"00", "01", "-0", "-", "--1", "+1", "1.0", "1e3", "1 ", "9223372036854775808", "-9223372036854775809", "1-1",
		`"`, `"a`, `"a"b`, `a`, `'a'`, `"\"`, `"\n"`, `"\t"`, `"\/"`, `"\'"`, `"\u0041"`, `"\u003C"`, `"\u0022"`, `"\u005c"`, `"\u"`, `"\u00`, `"\u003`, `"\u003"`, `"\u00e9"`, `"\u0100"`, `"\U003c"`, `"\u00+1"`,
		"\"\n\"", "\"\x00\"", `"<"`, `">"`, `"&"`, `"'"`, `"\`,
		"[", "]", "[1", "[1,", "[1,]", "[,1]", "[1 ]", "[ 1]", "[1, 2]", "[1 2]", "[1]]", "[]1", "[1}", "[null,]",
		"{", "}", "{1}", `{"a"}`, `{"a":}`, `{"a":1`, `{"a":1,}`, `{,"a":1}`, `{"a": 1}`, `{"a" :1}`, `{a:1}`, `{"a":1 }`, `{"a":1]`, `{"a":1,1}`, `{"a"1}`,
		strings.Repeat("[", 13) + strings.Repeat("]", 13), strings.Repeat("[", 12) + "{}" + strings.Repeat("]", 12), strings.Repeat("[", 100_000), strings.Repeat("[", 100_000) + strings.Repeat("]", 100_000), strings.Repeat(`{"":`, 50_000),
		wide(api.MaxOut),
	} {
		got, e := tmpl.Unquote(s)
		expect(t, s, got, e, null(), api.ErrSyntax)
	}
	for _, s := range []string{wide(api.MaxOut + 1), `"` + wide(api.MaxOut-1) + `"`} {
		got, e := tmpl.Unquote(s)
		expect(t, s, got, e, null(), api.ErrLarge)
	}
}

// randomValue is a value that can be quoted, so many deep at most.
func randomValue(r *rand.Rand, deep int) api.Value {
	texts := []string{"", "a", "é\xff", "\"\\\x00\n\x1f<>&'", "\\u003c", "</script>", "null"}
	numbers := []int{0, 1, -1, 10, math.MinInt, math.MaxInt}
	switch n := r.Intn(8); {
	case n == 0:
		return null()
	case n == 1:
		return truth(r.Intn(2) == 0)
	case n == 2:
		return num(numbers[r.Intn(len(numbers))])
	case n < 5 || deep <= 0:
		return str(texts[r.Intn(len(texts))])
	case n == 5:
		v := listOf()
		for range r.Intn(4) {
			v.Items = append(v.Items, randomValue(r, deep-1))
		}
		return v
	}
	v := table()
	for range r.Intn(4) {
		v.Keys, v.Items = append(v.Keys, texts[r.Intn(len(texts))]), append(v.Items, randomValue(r, deep-1))
	}
	return v
}

// P5.11: Unquote reads what Quote writes, and what it reads is written again in the same way; the web's own readers agree.
func TestQuoteUnquote(t *testing.T) {
	r := rand.New(rand.NewSource(6))
	for range 5000 {
		v := randomValue(r, 4)
		s, e := tmpl.Quote(v)
		again, e2 := tmpl.Unquote(s)
		if e != api.OK || e2 != api.OK || show(again) != show(v) {
			t.Fatalf("%+v, error %d: %s\n%+v, error %d", v, e, s, again, e2)
		}
		if !json.Valid([]byte(s)) || strings.ContainsAny(s, "<>&'\n\x00") {
			t.Fatalf("%s is no constant", s)
		}
		b := []byte(s)
		for range 1 + r.Intn(2) { // what is nearly a constant
			at := r.Intn(len(b))
			b[at] = []byte(`0"\[]{},:an-u <`)[r.Intn(15)]
		}
		if w, e := tmpl.Unquote(string(b)); e == api.OK {
			if s, e := tmpl.Quote(w); e != api.OK || s != string(b) {
				t.Fatalf("%s is read, but written as %s", b, s)
			}
		}
	}
}
