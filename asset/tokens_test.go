package asset_test

import (
	"math/rand"
	"regexp"
	"strings"
	"testing"

	"masthead/api"
	"masthead/asset"
)

// P7.7: the tokens of styles.
func TestStyleTokens(t *testing.T) {
	for _, c := range []struct {
		s    string
		want []asset.Token
	}{
		{"", nil},
		{"a", tokens(word("a"))},
		{"a.b#c*d<e=f+g-h!i@j/k\\l&m%n$o~p?q|r^s`t", tokens(word("a.b#c*d<e=f+g-h!i@j/k\\l&m%n$o~p?q|r^s`t"))},
		{"é\x80\xff_9", tokens(word("é\x80\xff_9"))},
		{"{}()[];:,>", tokens(mark("{"), mark("}"), mark("("), mark(")"), mark("["), mark("]"), mark(";"), mark(":"), mark(","), mark(">"))},
		{"a{b:c}", tokens(word("a"), mark("{"), word("b"), mark(":"), word("c"), mark("}"))},
		{" ", tokens(blank())},
		{" \t\n ", tokens(blank())},
		{"a \tb", tokens(word("a"), blank(), word("b"))},
		{"a/**/b", tokens(word("a"), blank(), word("b"))},
		{"/* 'x */", tokens(blank())},
		{" /* a */ /* b\n */\t", tokens(blank())},
		{"/*/ */a", tokens(blank(), word("a"))},
		{"/**/*/", tokens(blank(), word("*/"))},
		{"/***/a", tokens(blank(), word("a"))},
		{"/*a*/b/*c*/", tokens(blank(), word("b"), blank())},
		{"a// b", tokens(word("a//"), blank(), word("b"))},
		{"//*c*/d", tokens(word("/"), blank(), word("d"))},
		{"a/ *", tokens(word("a/"), blank(), word("*"))},
		{"'a' \"b\"", tokens(str("'a'"), blank(), str("\"b\""))},
		{"''\"\"", tokens(str("''"), str("\"\""))},
		{"a'b'c", tokens(word("a"), str("'b'"), word("c"))},
		{"'a\"b' \"a'b\"", tokens(str("'a\"b'"), blank(), str("\"a'b\""))},
		{`'\'' '\\' '\a' "\""`, tokens(str(`'\''`), blank(), str(`'\\'`), blank(), str(`'\a'`), blank(), str(`"\""`))},
		{"'/* {;\t'", tokens(str("'/* {;\t'"))},
		{`a\'b'`, tokens(word(`a\`), str(`'b'`))},
		{"'é\xff'", tokens(str("'é\xff'"))},
		{wide(api.MaxBody), tokens(word(wide(api.MaxBody)))},
	} {
		got, at, e := asset.StyleTokens(c.s)
		expect(t, c.s, got, e, c.want, api.OK)
		if at != 0 {
			t.Errorf("%s: %d", short(c.s), at)
		}
	}
}

// P7.7: the tokens of scripts.
func TestScriptTokens(t *testing.T) {
	var marks []asset.Token
	for _, c := range "!#%&()*+,-.:;<=>?@[\\]^`{|}~" {
		marks = append(marks, mark(string(c)))
	}
	for _, c := range []struct {
		s    string
		want []asset.Token
	}{
		{"", nil},
		{"aZ_$09é\xff", tokens(word("aZ_$09é\xff"))},
		{"!#%&()*+,-.:;<=>?@[\\]^`{|}~", marks},
		{"a.b-c", tokens(word("a"), mark("."), word("b"), mark("-"), word("c"))},
		{"a==b", tokens(word("a"), mark("="), mark("="), word("b"))},
		{"a/b", tokens(word("a"), mark("/"), word("b"))},
		{"a / b", tokens(word("a"), blank(), mark("/"), blank(), word("b"))},
		{"a//b", tokens(word("a"), blank())},
		{"a//b\nc", tokens(word("a"), blank(), word("c"))},
		{"//a\n//b\n\n/* c */ //", tokens(blank())},
		{"// /*\na", tokens(blank(), word("a"))},
		{"// 'a \"\nb", tokens(blank(), word("b"))},
		{"/* // */a", tokens(blank(), word("a"))},
		{"/*//*/a", tokens(blank(), word("a"))},
		{"a/**//**/b", tokens(word("a"), blank(), word("b"))},
		{"///**/\na", tokens(blank(), word("a"))},
		{"*//a", tokens(mark("*"), blank())},
		{"'//' \"/*\"", tokens(str("'//'"), blank(), str("\"/*\""))},
		{`x='\'';`, tokens(word("x"), mark("="), str(`'\''`), mark(";"))},
		{`\'a'`, tokens(mark(`\`), str(`'a'`))},
		{"`a'b'`", tokens(mark("`"), word("a"), str("'b'"), mark("`"))},
	} {
		got, at, e := asset.ScriptTokens(c.s)
		expect(t, c.s, got, e, c.want, api.OK)
		if at != 0 {
			t.Errorf("%s: %d", short(c.s), at)
		}
	}
	got, _, e := asset.ScriptTokens(strings.Repeat("+", api.MaxBody))
	if len(got) != asset.MaxTokens || e != api.OK {
		t.Errorf("%d tokens, error %d", len(got), e)
	}
}

// P7.7: what each byte is by itself.
func TestTokenBytes(t *testing.T) {
	const small = "abcdefghijklmnopqrstuvwxyz"
	words := small + strings.ToUpper(small) + "0123456789_$"
	for c := range 256 {
		s := string([]byte{byte(c)})
		style, script := tokens(word(s)), tokens(mark(s))
		if c >= 128 || strings.Contains(words, s) {
			script = tokens(word(s))
		}
		if strings.Contains("{}()[];:,>", s) {
			style = tokens(mark(s))
		}
		if strings.Contains(" \t\n", s) {
			style, script = tokens(blank()), tokens(blank())
		}
		want := api.OK
		if strings.Contains("'\"", s) {
			style, script, want = nil, nil, api.ErrSyntax
		}
		if c < ' ' && c != '\t' && c != '\n' || c == 127 {
			style, script, want = nil, nil, api.ErrByte
		}
		got, _, e := asset.StyleTokens(s)
		expect(t, "style "+s, got, e, style, want)
		got, _, e = asset.ScriptTokens(s)
		expect(t, "script "+s, got, e, script, want)
		got, _, e = asset.ScriptTokens("a" + s)
		if joined := c >= 128 || strings.Contains(words, s); joined != (len(got) == 1) {
			t.Errorf("a%q: %+v, error %d", s, got, e)
		}
	}
}

// P7.7: errors, from left to right, for styles and scripts.
func TestTokenErrors(t *testing.T) {
	for _, c := range []struct {
		s  string
		at int
		e  api.Errno
	}{
		{"\x00", 0, api.ErrByte},
		{"a\x01b", 1, api.ErrByte},
		{"a \x1f", 2, api.ErrByte},
		{"a\r\n", 1, api.ErrByte},
		{"a\x7fb", 1, api.ErrByte},
		{"+\x7f", 1, api.ErrByte},
		{"\x7f\x01", 0, api.ErrByte},
		{" \x0b", 1, api.ErrByte},
		{"'\x01'", 1, api.ErrByte},
		{"'a\x7f", 0, api.ErrSyntax},
		{"'\\\x01'", 2, api.ErrByte},
		{"/*\x01*/", 2, api.ErrByte},
		{" /* \n\x01", 1, api.ErrSyntax},
		{" /**/ /* \x7f */ '", 9, api.ErrByte},
		{"/* \x01 */ '", 3, api.ErrByte},
		{"'", 0, api.ErrSyntax},
		{"\"", 0, api.ErrSyntax},
		{"a '", 2, api.ErrSyntax},
		{"'a\"", 0, api.ErrSyntax},
		{"'a\n'", 0, api.ErrSyntax},
		{"'a' 'b\n'", 4, api.ErrSyntax},
		{"'\\'", 0, api.ErrSyntax},
		{"'\\", 0, api.ErrSyntax},
		{"'\\\n'", 0, api.ErrSyntax},
		{"'a\\\nb'", 0, api.ErrSyntax},
		{"'\\\\\\'", 0, api.ErrSyntax},
		{"/*", 0, api.ErrSyntax},
		{"/*/", 0, api.ErrSyntax},
		{"a/*", 1, api.ErrSyntax},
		{"  /**/ \n/* *", 8, api.ErrSyntax},
		{"/* *\\/", 0, api.ErrSyntax},
		{"/*'\x01", 0, api.ErrSyntax},
		{"' /*", 0, api.ErrSyntax},
		{"a\x01'", 1, api.ErrByte},
		{wide(api.MaxBody-1) + "\x01", api.MaxBody - 1, api.ErrByte},
		{wide(api.MaxBody + 1), 0, api.ErrLarge},
		{"\x01" + wide(api.MaxBody), 0, api.ErrLarge},
	} {
		l, at, e := asset.StyleTokens(c.s)
		if l != nil || at != c.at || e != c.e {
			t.Errorf("style %s: %s, at %d, error %d; want at %d, error %d", short(c.s), short(show(l)), at, e, c.at, c.e)
		}
		l, at, e = asset.ScriptTokens(c.s)
		if l != nil || at != c.at || e != c.e {
			t.Errorf("script %s: %s, at %d, error %d; want at %d, error %d", short(c.s), short(show(l)), at, e, c.at, c.e)
		}
	}
	for s, at := range map[string]int{"// \x01": 3, "a//\n\x7f": 4, "//\r": 2, "//a\n//\x00": 6} {
		if _, got, e := asset.ScriptTokens(s); got != at || e != api.ErrByte {
			t.Errorf("%q: at %d, error %d; want at %d", s, got, e, at)
		}
	}
	if _, _, e := asset.ScriptTokens("// ' /*"); e != api.OK {
		t.Errorf("a line without an end: error %d", e)
	}
}

// readers has expressions for tokens, the first ones first.
func readers(kind int) []*regexp.Regexp {
	quoted := "^(?:'(?:\\\\[^\\n]|[^'\\\\\\n])*'|\"(?:\\\\[^\\n]|[^\"\\\\\\n])*\")"
	if kind == asset.Style {
		return []*regexp.Regexp{regexp.MustCompile(`^(?:[ \t\n]|/\*(?s:.*?)\*/)+`), regexp.MustCompile(quoted), regexp.MustCompile(`^[{}()\[\];:,>]`), regexp.MustCompile(`^.`)}
	}
	return []*regexp.Regexp{regexp.MustCompile(`^(?:[ \t\n]|/\*(?s:.*?)\*/|//[^\n]*)+`), regexp.MustCompile(quoted), regexp.MustCompile(`^[!#%&()*+,./:;<=>?@\[\\\]^{|}~` + "`-]"), regexp.MustCompile(`^[a-zA-Z0-9_$é]+`)}
}

// readTokens finds tokens with expressions; false, if there is an error.
func readTokens(kind int, s string) ([]asset.Token, bool) {
	var l []asset.Token
	if strings.ContainsAny(s, "\x00\x01\x02\x03\r\x7f") {
		return nil, false
	}
	all := readers(kind)
	for s != "" {
		text, k := "", 0
		for i, x := range all {
			if text = x.FindString(s); text != "" {
				k = []int{asset.Blank, asset.Str, asset.Mark, asset.Word}[i]
				break
			}
		}
		if text == "" || kind == asset.Style && k == asset.Word && (strings.ContainsAny(text, "'\"") || strings.HasPrefix(s, "/*")) || k == asset.Mark && strings.HasPrefix(s, "/*") {
			return nil, false
		}
		s = s[len(text):]
		if k == asset.Blank {
			text = " "
		}
		if k == asset.Word && len(l) > 0 && l[len(l)-1].Kind == k {
			l[len(l)-1].Text += text
		} else {
			l = append(l, asset.Token{Kind: k, Text: text})
		}
	}
	return l, true
}

// P7.7: tokens are those that expressions find.
func TestTokensOfRandomCode(t *testing.T) {
	r := rand.New(rand.NewSource(7))
	for _, kind := range []int{asset.Style, asset.Script} {
		right := 0
		for range 10_000 {
			s := randomCode(r, 12)
			l, _, e := asset.StyleTokens(s)
			if kind == asset.Script {
				l, _, e = asset.ScriptTokens(s)
			}
			want, ok := readTokens(kind, s)
			if (e == api.OK) != ok || show(l) != show(want) {
				t.Fatalf("kind %d, %q\n got %+v, error %d\nwant %+v, %v", kind, s, l, e, want, ok)
			}
			if ok {
				right++
			}
		}
		if right < 3000 || right > 9500 {
			t.Errorf("kind %d: %d are right", kind, right)
		}
	}
}
