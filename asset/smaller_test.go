package asset_test

import (
	"math"
	"math/rand"
	"slices"
	"strings"
	"testing"

	"masthead/api"
	"masthead/asset"
)

// P7.8: texts that are joined.
func TestTokenString(t *testing.T) {
	for _, c := range []struct {
		l    []asset.Token
		want string
	}{
		{nil, ""},
		{tokens(word("a")), "a"},
		{tokens(word("a"), blank(), blank(), mark("{"), str("'x'")), "a  {'x'"},
		{tokens(word("{ }"), mark("ab"), str("no quotes"), word("\x01")), "{ }abno quotes\x01"},
		{slices.Repeat(tokens(mark(";")), asset.MaxTokens), strings.Repeat(";", asset.MaxTokens)},
		{tokens(word(wide(api.MaxOut))), wide(api.MaxOut)},
		{tokens(word(wide(api.MaxOut-1)), blank()), wide(api.MaxOut-1) + " "},
	} {
		got, e := asset.TokenString(c.l)
		expect(t, show(c.l), got, e, c.want, api.OK)
	}
}

// P7.8: tokens that are none, or too many.
func TestTokensErrors(t *testing.T) {
	kinds := func(l ...int) []asset.Token {
		var out []asset.Token
		for _, kind := range l {
			out = append(out, asset.Token{Kind: kind, Text: " "})
		}
		return out
	}
	for _, c := range []struct {
		name string
		l    []asset.Token
		e    api.Errno
	}{
		{"all kinds", kinds(1, 2, 3, 4), api.OK},
		{"no kind", kinds(0), api.ErrForm},
		{"another kind", kinds(5), api.ErrForm},
		{"kinds below", kinds(1, -1), api.ErrForm},
		{"kinds far off", kinds(math.MaxInt), api.ErrForm},
		{"kinds far below", kinds(math.MinInt), api.ErrForm},
		{"an empty word", tokens(word("")), api.ErrForm},
		{"an empty string", tokens(word("a"), str("")), api.ErrForm},
		{"an empty mark", tokens(mark("")), api.ErrForm},
		{"an empty blank", tokens(asset.Token{Kind: asset.Blank}), api.ErrForm},
		{"two blanks", tokens(asset.Token{Kind: asset.Blank, Text: "  "}), api.ErrForm},
		{"another blank", tokens(asset.Token{Kind: asset.Blank, Text: "x"}), api.ErrForm},
		{"a line feed", tokens(asset.Token{Kind: asset.Blank, Text: "\n"}), api.ErrForm},
		{"a comment", tokens(asset.Token{Kind: asset.Blank, Text: "/**/"}), api.ErrForm},
		{"too many", slices.Repeat(tokens(mark(";")), asset.MaxTokens+1), api.ErrLarge},
		{"too many, of no form", make([]asset.Token, asset.MaxTokens+1), api.ErrLarge},
		{"too large", tokens(word(wide(api.MaxOut + 1))), api.ErrLarge},
		{"too large in all", tokens(word(wide(api.MaxOut)), blank()), api.ErrLarge},
		{"far too large in all", slices.Repeat(tokens(word(wide(api.MaxOut))), 5000), api.ErrLarge},
		{"too large, of no form", tokens(word(wide(api.MaxOut+1)), word("")), api.ErrForm},
		{"of no form, too large", tokens(word(""), word(wide(api.MaxOut+1))), api.ErrForm},
	} {
		s, e := asset.TokenString(c.l)
		if e != c.e || e != api.OK && s != "" {
			t.Errorf("%s: TokenString %s, error %d; want %d", c.name, short(s), e, c.e)
		}
		for _, kind := range []int{asset.Style, asset.Script} {
			if l, e := asset.Smaller(kind, c.l); e != c.e || e != api.OK && l != nil {
				t.Errorf("%s: Smaller %d %s, error %d; want %d", c.name, kind, short(show(l)), e, c.e)
			}
		}
		for _, kind := range []int{asset.Else, asset.Images, 4, -1, math.MaxInt} {
			if l, e := asset.Smaller(kind, c.l); e != api.ErrKind || l != nil {
				t.Errorf("%s: Smaller %d %s, error %d", c.name, kind, short(show(l)), e)
			}
		}
	}
}

// read are tokens of a style that is known to be right: ~ stands for a Blank that follows another one.
func read(t *testing.T, s string) []asset.Token {
	t.Helper()
	var out []asset.Token
	for i, part := range strings.Split(s, "~") {
		l, _, e := asset.StyleTokens(part)
		if e != api.OK {
			t.Fatalf("%q: error %d", s, e)
		}
		if i > 0 {
			out = append(out, blank())
		}
		out = append(out, l...)
	}
	return out
}

// P7.8: what means nothing in styles, and in scripts.
func TestSmaller(t *testing.T) {
	for _, c := range []struct{ s, want string }{
		{"", ""},
		{" ", ""},
		{" ~", ""},
		{"a b", "a b"},
		{"a ~b", "a b"},
		{"a ~~b", "a b"},
		{"~ a ~", "a"},
		{" a ", "a"},
		{"a { b", "a{b"},
		{"a } b", "a}b"},
		{"a ; b", "a;b"},
		{"a : b", "a :b"},
		{"a , b", "a,b"},
		{"a > b", "a>b"},
		{"a ( b", "a ( b"},
		{"a ) b", "a ) b"},
		{"a [ b", "a [ b"},
		{"a ] b", "a ] b"},
		{"a ~: ~b", "a :b"},
		{"a ~{ ~b", "a{b"},
		{"'a' 'b'", "'a' 'b'"},
		{"a 'b' c", "a 'b' c"},
		{"{ :a", "{:a"},
		{"( : )", "( :)"},
		{") {", "){"},
		{"(} )", "(})"},
		{"{ (", "{("},
		{"a;", "a"},
		{"a ;", "a"},
		{"a ; ", "a"},
		{";", ""},
		{" ; ", ""},
		{";;;", ""},
		{";a", ";a"},
		{";;a", ";;a"},
		{"; ;a", ";;a"},
		{"a;;b", "a;;b"},
		{"a;}", "a}"},
		{"a ; ; }", "a}"},
		{"a;~ ~;}b;}", "a}b}"},
		{"a;b}", "a;b}"},
		{"a;;b;;}", "a;;b}"},
		{"a;)", "a;)"},
		{"a;{", "a;{"},
		{"a;]", "a;]"},
		{"a;:}", "a;:}"},
		{"a;,", "a;,"},
		{"a;'x';", "a;'x'"},
		{"};{", "};{"},
		{"{;}", "{}"},
		{"{ ; } ; ", "{}"},
		{"a { b : c ; d : e ; } f > g , h { }", "a{b :c;d :e}f>g,h{}"},
	} {
		got, e := asset.Smaller(asset.Style, read(t, c.s))
		expect(t, c.s, got, e, read(t, c.want), api.OK)
	}
	for _, c := range []struct{ s, want string }{
		{"", ""},
		{" ~ ", ""},
		{" a ", "a"},
		{"a b", "a b"},
		{"a ~~b", "a b"},
		{"a {", "a{"},
		{"{ a", "{a"},
		{"{ }", "{ }"},
		{"{ ~}", "{ }"},
		{"; ;", "; ;"},
		{";;", ";;"},
		{";", ";"},
		{"a ; b ;", "a;b;"},
		{"a 'b' c", "a'b'c"},
		{"'a' 'b'", "'a''b'"},
		{"{ 'a' }", "{'a'}"},
		{" { ", "{"},
		{"a;}", "a;}"},
	} {
		got, e := asset.Smaller(asset.Script, read(t, c.s))
		expect(t, c.s, got, e, read(t, c.want), api.OK)
	}
}

// P7.8: what a token is depends on its Kind, and not on its Text alone.
func TestSmallerKinds(t *testing.T) {
	l := tokens(word("{"), blank(), str(";"), blank(), word("}"), word(";"), mark("{;"), blank(), word("a"), str(";"), word("}"), blank(), mark(";}"))
	got, e := asset.Smaller(asset.Style, l)
	expect(t, show(l), got, e, l, api.OK)
	l = tokens(str("a"), blank(), word("+"), blank(), mark("b"))
	got, e = asset.Smaller(asset.Script, l)
	expect(t, show(l), got, e, tokens(str("a"), word("+"), mark("b")), api.OK)
}

// smaller leaves tokens out as the chapter says it, one by one.
func smaller(kind int, l []asset.Token) []asset.Token {
	var once, out []asset.Token
	for _, x := range l {
		if x.Kind != asset.Blank || len(once) == 0 || once[len(once)-1].Kind != asset.Blank {
			once = append(once, x)
		}
	}
	is := func(i int, marks ...string) bool {
		return once[i].Kind == asset.Mark && slices.Contains(marks, once[i].Text)
	}
	for i, x := range once {
		edge := i == 0 || i == len(once)-1
		switch {
		case x.Kind == asset.Blank && kind == asset.Style:
			if edge || is(i-1, "{", "}", ";", ":", ",", ">") || is(i+1, "{", "}", ";", ",", ">") {
				continue
			}
		case x.Kind == asset.Blank:
			if edge || !(once[i-1].Kind == asset.Word && once[i+1].Kind == asset.Word || once[i-1].Kind == asset.Mark && once[i+1].Kind == asset.Mark) {
				continue
			}
		case kind == asset.Style && is(i, ";"):
			next := i + 1
			for next < len(once) && (once[next].Kind == asset.Blank || is(next, ";")) {
				next++
			}
			if next == len(once) || is(next, "}") {
				continue
			}
		}
		out = append(out, x)
	}
	return out
}

// P7.8: tokens of random code, and others that no code has.
func TestSmallerRandom(t *testing.T) {
	r := rand.New(rand.NewSource(8))
	some := tokens(word("a"), str("'b'"), mark("{"), mark("}"), mark(";"), mark(";"), mark(":"), mark(","), mark(">"), mark("("), blank(), blank(), blank(), word(";"))
	for range 20_000 {
		var l []asset.Token
		for range r.Intn(10) {
			l = append(l, some[r.Intn(len(some))])
		}
		for _, kind := range []int{asset.Style, asset.Script} {
			got, e := asset.Smaller(kind, l)
			expect(t, show(l), got, e, smaller(kind, l), api.OK)
		}
	}
}

// P7.9: strings that are made smaller.
func TestMinify(t *testing.T) {
	for _, c := range []struct {
		kind    int
		s, want string
	}{
		{asset.Style, "", ""},
		{asset.Style, "/* nothing */\n", ""},
		{asset.Style, " a  b , c > d :e { x : y ; ; } ", "a b,c>d :e{x :y}"},
		{asset.Style, "a/**/b", "a b"},
		{asset.Style, "a { b: url( 'x y' ); }\n\n/* c */\nd{}\n", "a{b:url( 'x y' )}d{}"},
		{asset.Style, wide(api.MaxBody), wide(api.MaxBody)},
		{asset.Script, "", ""},
		{asset.Script, "// nothing", ""},
		{asset.Script, "if ( a ) { return  \"x\" ; }", "if(a) {return\"x\"; }"},
		{asset.Script, "a + +b // c\n", "a+ +b"},
		{asset.Script, "let a = 'b  c' ;\n\nf ( a )", "let a='b  c';f(a)"},
	} {
		got, at, e := asset.Minify(c.kind, c.s)
		expect(t, c.s, []any{got, at}, e, []any{c.want, 0}, api.OK)
	}
	for _, c := range []struct {
		kind int
		s    string
		at   int
		e    api.Errno
	}{
		{asset.Else, "a", 0, api.ErrKind},
		{asset.Images, "a '", 0, api.ErrKind},
		{5, "", 0, api.ErrKind},
		{-1, "a \x01", 0, api.ErrKind},
		{asset.Style, "a '", 2, api.ErrSyntax},
		{asset.Script, "a \x01", 2, api.ErrByte},
		{asset.Script, "a // \x01", 5, api.ErrByte},
		{asset.Style, wide(api.MaxBody + 1), 0, api.ErrLarge},
		{asset.Script, wide(api.MaxBody + 1), 0, api.ErrLarge},
		{asset.Else, wide(api.MaxBody + 1), 0, api.ErrLarge},
	} {
		got, at, e := asset.Minify(c.kind, c.s)
		expect(t, c.s, []any{got, at}, e, []any{"", c.at}, c.e)
	}
}

// P7.9: the tokens of what Minify returns are those that Smaller returns, and Minify of it returns it again.
func TestMinifyAgain(t *testing.T) {
	r := rand.New(rand.NewSource(9))
	right := 0
	for range 20_000 {
		s := randomCode(r, 14)
		for kind, read := range map[int]func(string) ([]asset.Token, int, api.Errno){asset.Style: asset.StyleTokens, asset.Script: asset.ScriptTokens} {
			l, at, e := read(s)
			got, minifyAt, minifyError := asset.Minify(kind, s)
			if at != minifyAt || e != minifyError {
				t.Fatalf("%q: at %d, error %d; want at %d, error %d", s, minifyAt, minifyError, at, e)
			}
			if e != api.OK {
				continue
			}
			right++
			l, _ = asset.Smaller(kind, l)
			again, _, e := read(got)
			expect(t, s, again, e, l, api.OK)
			twice, _, e := asset.Minify(kind, got)
			expect(t, s, twice, e, got, api.OK)
		}
	}
	if right < 10_000 {
		t.Errorf("only %d are right", right)
	}
}
