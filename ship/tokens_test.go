package ship_test

import (
	"fmt"
	"math/rand"
	"regexp"
	"strings"
	"testing"

	"masthead/api"
	"masthead/mark"
	"masthead/ship"
)

// lines writes tokens, one a line.
func lines(l []ship.Token) string {
	var b strings.Builder
	for _, t := range l {
		switch t.Kind {
		case ship.Chars:
			fmt.Fprintf(&b, "%d chars %q\n", t.At, t.Text)
		case ship.Open:
			fmt.Fprintf(&b, "%d open %s", t.At, t.Name)
			for _, a := range t.Attrs {
				fmt.Fprintf(&b, " %s=%q", a.Name, a.Value)
			}
			b.WriteString("\n")
		case ship.Close:
			fmt.Fprintf(&b, "%d close %s\n", t.At, t.Name)
		case ship.Comment:
			fmt.Fprintf(&b, "%d comment %q\n", t.At, t.Text)
		default:
			fmt.Fprintf(&b, "%d decl %q\n", t.At, t.Text)
		}
	}
	return b.String()
}

// P10.1: each kind of token, and what makes none.
func TestTokens(t *testing.T) {
	for html, want := range map[string]string{
		"":                              "",
		"a":                             "0 chars \"a\"\n",
		" \n":                           "0 chars \" \\n\"\n",
		"a &amp; > \" ' b":              "0 chars \"a &amp; > \\\" ' b\"\n",
		"\xff\x00é":                     "0 chars \"\\xff\\x00é\"\n",
		"<":                             "0 chars \"<\"\n",
		"</":                            "0 chars \"</\"\n",
		"a < b <= c </ d </1> <1> < p>": "0 chars \"a < b <= c </ d </1> <1> < p>\"\n",
		"<é>":                           "0 chars \"<é>\"\n",
		"<<b>":                          "0 chars \"<\"\n1 open b\n",
		"<p>":                           "0 open p\n",
		"<P>x</P>":                      "0 open p\n3 chars \"x\"\n4 close p\n",
		"x<b><i></i></b>y":              "0 chars \"x\"\n1 open b\n4 open i\n7 close i\n11 close b\n15 chars \"y\"\n",
		"<my-Tag2 >":                    "0 open my-tag2\n",
		"<a.b>":                         "0 open a b=\"\"\n",
		"<a_b>":                         "0 open a _b=\"\"\n",
		"<a:b>":                         "0 open a :b=\"\"\n",
		"<aé>":                          "0 open a\n",
		"<br/>":                         "0 open br\n",
		"<br / >":                       "0 open br\n",
		"<p\nclass=\"x\">":              "0 open p class=\"x\"\n",
		"</p\n class=\"x\">y":           "0 close p\n15 chars \"y\"\n",
		"</p \">\">y":                   "0 close p\n6 chars \"\\\">y\"\n",
		"</P-q/>":                       "0 close p-q\n",
		"</a.b>":                        "0 close a\n",
		"<!-- c -->d":                   "0 comment \" c \"\n10 chars \"d\"\n",
		"<!---->":                       "0 comment \"\"\n",
		"<!-->x-->y":                    "0 comment \">x\"\n9 chars \"y\"\n",
		"<!--->x-->":                    "0 comment \"->x\"\n",
		"<!-- a --!> b -- > c --->":     "0 comment \" a --!> b -- > c -\"\n",
		"<!-- <p> -->":                  "0 comment \" <p> \"\n",
		"<!DOCTYPE html>x":              "0 decl \"DOCTYPE html\"\n15 chars \"x\"\n",
		"<!>x":                          "0 decl \"\"\n3 chars \"x\"\n",
		"<!- x -->y":                    "0 decl \"- x --\"\n9 chars \"y\"\n",
		"<?xml a=\"1>\"?>":              "0 decl \"xml a=\\\"1\"\n11 chars \"\\\"?>\"\n",
	} {
		got, e := ship.Tokens(html)
		expect(t, html, lines(got), e, want, api.OK)
	}
}

// P10.1: attributes: names, values, and bytes that cannot be there.
func TestAttributes(t *testing.T) {
	for html, want := range map[string]string{
		"<a b=\"c\" d=\"\">":  "b=\"c\" d=\"\"",
		"<a B-c_D:e.F=\"X\">": "b-c_d:e.f=\"X\"",
		"<a _b :c x1>":        "_b=\"\" :c=\"\" x1=\"\"",
		"<a 1b -c .d>":        "b=\"\" c=\"\" d=\"\"",
		"<a b=\"&lt;&amp;amp;&#39;&quot;&nbsp;\">": "b=\"<&amp;'\\\"&nbsp;\"",
		"<a b=&lt;&amp;>":                          "b=\"<&\"",
		"<a b=\"x>y\nz\">":                         "b=\"x>y\\nz\"",
		"<a b=\"'\" c='\"'>":                       "b=\"'\" c=\"'\\\"'\"",
		"<a b='c d'>":                              "b=\"'c\" d=\"\"",
		"<a b=c d=e/f g=/>":                        "b=\"c\" d=\"e/f\" g=\"/\"",
		"<a b=c\"d\"e f>":                          "b=\"c\\\"d\\\"e\" f=\"\"",
		"<a b=c\td=e\nf=g>":                        "b=\"c\" d=\"e\" f=\"g\"",
		"<a b=c\rd>":                               "b=\"c\\rd\"",
		"<a b=>":                                   "b=\"\"",
		"<a b= c>":                                 "b=\"\" c=\"\"",
		"<a b= \"c\">":                             "b=\"\" c=\"\"",
		"<a b =c>":                                 "b=\"\" c=\"\"",
		"<a b==c>":                                 "b=\"=c\"",
		"<a =b>":                                   "b=\"\"",
		"<a \"b\"c>":                               "b=\"\" c=\"\"",
		"<a b=\"c\"d=\"e\"/f>":                     "b=\"c\" d=\"e\" f=\"\"",
		"<a b b=\"1\" B=\"2\">":                    "b=\"\" b=\"1\" b=\"2\"",
		"<a b<c>":                                  "b=\"\" c=\"\"",
		"<a é b=é>":                                "b=\"é\"",
	} {
		got, e := ship.Tokens(html)
		expect(t, html, lines(got), e, "0 open a "+want+"\n", api.OK)
	}
}

// P10.1: what is raw up to an end tag.
func TestRaw(t *testing.T) {
	for html, want := range map[string]string{
		"<script>a<b</i><!-- </script>c":       "0 open script\n8 chars \"a<b</i><!-- \"\n20 close script\n29 chars \"c\"\n",
		"<script></script>":                    "0 open script\n8 close script\n",
		"<SCRIPT a>x</Script >":                "0 open script a=\"\"\n10 chars \"x\"\n11 close script\n",
		"<style>p</style\n>":                   "0 open style\n7 chars \"p\"\n8 close style\n",
		"<title>a &amp; <b></title>":           "0 open title\n7 chars \"a &amp; <b>\"\n18 close title\n",
		"<textarea>\n</textarea/>":             "0 open textarea\n10 chars \"\\n\"\n11 close textarea\n",
		"<title>a</titles></title-></title2>b": "0 open title\n7 chars \"a</titles></title-></title2>b\"\n",
		"<title>a</title.>b":                   "0 open title\n7 chars \"a\"\n8 close title\n17 chars \"b\"\n",
		"<title>a</title\xff>b":                "0 open title\n7 chars \"a\"\n8 close title\n17 chars \"b\"\n",
		"<title>a</title":                      "0 open title\n7 chars \"a\"\n8 close title\n",
		"<title></title":                       "0 open title\n7 close title\n",
		"<title>a</titl":                       "0 open title\n7 chars \"a</titl\"\n",
		"<title>a</ title>":                    "0 open title\n7 chars \"a</ title>\"\n",
		"<title>a</\u017fcript>":               "0 open title\n7 chars \"a</\u017fcript>\"\n",
		"<script>a</\u017fcript>":              "0 open script\n8 chars \"a</\u017fcript>\"\n",
		"<title>a</style></TITLE>":             "0 open title\n7 chars \"a</style>\"\n16 close title\n",
		"<title>a":                             "0 open title\n7 chars \"a\"\n",
		"<title>":                              "0 open title\n",
		"<title/>a</title>":                    "0 open title\n8 chars \"a\"\n9 close title\n",
		"<title":                               "0 open title\n",
		"</title>a<b>":                         "0 close title\n8 chars \"a\"\n9 open b\n",
		"<titles><b>":                          "0 open titles\n8 open b\n",
		"<title-x><b>":                         "0 open title-x\n9 open b\n",
		"<script><script></script></script>":   "0 open script\n8 chars \"<script>\"\n16 close script\n25 close script\n",
	} {
		got, e := ship.Tokens(html)
		expect(t, html, lines(got), e, want, api.OK)
	}
}

// P10.1: what does not end goes on to the end of the string.
func TestTokensWithoutEnd(t *testing.T) {
	for html, want := range map[string]string{
		"<a":            "0 open a\n",
		"<a b":          "0 open a b=\"\"\n",
		"<a b=":         "0 open a b=\"\"\n",
		"<a b=c":        "0 open a b=\"c\"\n",
		"<a b=\"":       "0 open a b=\"\"\n",
		"<a b=\"c d><p": "0 open a b=\"c d><p\"\n",
		"<a <b":         "0 open a b=\"\"\n",
		"</a":           "0 close a\n",
		"</a <b":        "0 close a\n",
		"<!--":          "0 comment \"\"\n",
		"<!-- a ->":     "0 comment \" a ->\"\n",
		"<!--->":        "0 comment \"->\"\n",
		"<!-- --":       "0 comment \" --\"\n",
		"<!":            "0 decl \"\"\n",
		"<!-":           "0 decl \"-\"\n",
		"<?":            "0 decl \"\"\n",
		"<! a <b":       "0 decl \" a <b\"\n",
		"x</a":          "0 chars \"x\"\n1 close a\n",
	} {
		got, e := ship.Tokens(html)
		expect(t, html, lines(got), e, want, api.OK)
	}
}

// P10.1: how large a string can be, and how many tokens it can have.
func TestTokensLarge(t *testing.T) {
	for name, c := range map[string]struct {
		html string
		many int
		want api.Errno
	}{
		"a large string":       {wide(api.MaxOut), 1, api.OK},
		"a larger string":      {wide(api.MaxOut + 1), 0, api.ErrLarge},
		"many tokens":          {strings.Repeat("<a>", ship.MaxTokens), ship.MaxTokens, api.OK},
		"too many tokens":      {tooMany, 0, api.ErrLarge},
		"too many, with chars": {strings.Repeat("<a>", ship.MaxTokens) + "x", 0, api.ErrLarge},
		"many, with raw":       {strings.Repeat("<a>", ship.MaxTokens-2) + "<title>x", ship.MaxTokens, api.OK},
		"too many, with raw":   {strings.Repeat("<a>", ship.MaxTokens-1) + "<title>x", 0, api.ErrLarge},
		"many, with nothing":   {strings.Repeat("<a>", ship.MaxTokens-1) + "<title>", ship.MaxTokens, api.OK},
		"many attributes":      {"<a" + strings.Repeat(" b", 90_000) + ">", 1, api.OK},
		"many signs":           {strings.Repeat("<", api.MaxOut), 1, api.OK},
		"many raw ends":        {"<title>" + strings.Repeat("</", 90_000), 2, api.OK},
	} {
		l, e := ship.Tokens(c.html)
		expect(t, name, len(l), e, c.many, c.want)
	}
}

var (
	tagName    = regexp.MustCompile(`^<([A-Za-z][A-Za-z0-9-]*)`)
	attrBegin  = regexp.MustCompile(`^[^A-Za-z_:>]*([A-Za-z_:][A-Za-z0-9_:.-]*)(?:="([^"]*)(?:"|$)|=([^ \t\n>]*))?`)
	tagEnd     = regexp.MustCompile(`^[^A-Za-z_:>]*(?:>|$)`)
	endTag     = regexp.MustCompile(`^</([A-Za-z][A-Za-z0-9-]*)[^>]*(?:>|$)`)
	aComment   = regexp.MustCompile(`(?s)^<!--(.*?)(?:-->|$)`)
	aDecl      = regexp.MustCompile(`^<[!?]([^>]*)(?:>|$)`)
	rawOf      = regexp.MustCompile(`^(?i:script|style|title|textarea)$`)
	notMarkup  = regexp.MustCompile(`(?s)^.[^<]*`)
	beforeRaw  = `(?is)^(.*?)(?:</%s(?:[^a-z0-9-]|$)|$)`
	somePieces = words("a b < > </ <a <p <B <img </a </a> <!-- --> -- ! ? <!x <? = =\" \" ' / . : _ - 1 href src id alt class <title> </title> </title <script <style> </STYLE </script> <textarea> </textareas> &amp; &lt; é \xff")
)

// tokens are those of a string, as the chapter has them, by regular expressions.
func tokens(html string) []ship.Token {
	var l []ship.Token
	for at := 0; at < len(html); {
		rest := html[at:]
		if m := tagName.FindStringSubmatch(rest); m != nil {
			t := ship.Token{Kind: ship.Open, At: at, Name: strings.ToLower(m[1])}
			at += len(m[0])
			for end := tagEnd.FindString(html[at:]); ; end = tagEnd.FindString(html[at:]) {
				if end != "" || at == len(html) {
					at += len(end)
					break
				}
				a := attrBegin.FindStringSubmatch(html[at:])
				t.Attrs = append(t.Attrs, ship.Attr{Name: strings.ToLower(a[1]), Value: mark.Unescape(a[2] + a[3])})
				at += len(a[0])
			}
			l = append(l, t)
			if rawOf.MatchString(t.Name) {
				raw := regexp.MustCompile(fmt.Sprintf(beforeRaw, t.Name)).FindStringSubmatch(html[at:])[1]
				if raw != "" {
					l = append(l, ship.Token{Kind: ship.Chars, At: at, Text: raw})
				}
				at += len(raw)
			}
			continue
		}
		kind, m := ship.Close, endTag.FindStringSubmatch(rest)
		if m == nil {
			kind, m = ship.Comment, aComment.FindStringSubmatch(rest)
		}
		if m == nil {
			kind, m = ship.Decl, aDecl.FindStringSubmatch(rest)
		}
		t := ship.Token{Kind: kind, At: at}
		switch {
		case m == nil:
			text := notMarkup.FindString(rest)
			at += len(text)
			if n := len(l); n > 0 && l[n-1].Kind == ship.Chars {
				l[n-1].Text += text
				continue
			}
			t.Kind, t.Text = ship.Chars, text
			at -= len(text)
			m = []string{text}
		case kind == ship.Close:
			t.Name = strings.ToLower(m[1])
		default:
			t.Text = m[1]
		}
		at += len(m[0])
		l = append(l, t)
	}
	return l
}

// P10.1: random strings.
func TestTokensRandom(t *testing.T) {
	r := rand.New(rand.NewSource(1))
	pieces := append(somePieces, " ", " ", "\n", "\t", "x y")
	seen := map[int]int{}
	for range 60_000 {
		html := mix(r, pieces, 14)
		got, e := ship.Tokens(html)
		if want := tokens(html); e != api.OK || show(got) != show(want) {
			t.Fatalf("%q\n got %s, error %d\nwant %s", html, lines(got), e, lines(want))
		}
		for _, x := range got {
			seen[x.Kind]++
		}
	}
	for _, kind := range []int{ship.Chars, ship.Open, ship.Close, ship.Comment, ship.Decl} {
		if seen[kind] < 3000 {
			t.Errorf("kind %d: %d times", kind, seen[kind])
		}
	}
}
