package mark_test

import (
	"strings"
	"testing"

	"masthead/api"
	"masthead/mark"
)

// Inlines: errors and their order.
func TestInlinesErrors(t *testing.T) {
	for _, c := range []struct {
		text string
		want api.Errno
	}{
		{"", api.OK},
		{strings.Repeat("a", api.MaxBody), api.OK},
		{strings.Repeat("a", api.MaxBody+1), api.ErrLarge},
		{strings.Repeat("\x00", api.MaxBody+1), api.ErrLarge},
		{"\x00", api.ErrByte},
		{"a\rb", api.ErrByte},
		{"a\x1f", api.ErrByte},
		{"a\tb\nc\x7f\x80", api.OK},
		{strings.Repeat("\n", api.MaxNodes), api.OK},
		{strings.Repeat("\n", api.MaxNodes+1), api.ErrLarge},
		{strings.Repeat("\n", api.MaxNodes+1) + "\x01", api.ErrByte},
		{strings.Repeat("*a*\n", api.MaxNodes/3) + "a", api.OK},
		{strings.Repeat("*a*\n", api.MaxNodes/3) + "a`b`", api.ErrLarge},
		{strings.Repeat("`a`", api.MaxNodes), api.OK},
		{strings.Repeat("`a`", api.MaxNodes) + "b", api.ErrLarge},
	} {
		l, e := mark.Inlines(c.text)
		if e != c.want {
			t.Errorf("Inlines(%s): error %d, want %d", short(c.text), e, c.want)
		}
		if e != api.OK && len(l) != 0 {
			t.Errorf("Inlines(%s): inlines beside an error", short(c.text))
		}
	}
}

// Rule 1 of P1.3.
func TestInlinesBackslashes(t *testing.T) {
	for c := byte(32); c < 128; c++ {
		want := str(`\` + string(c))
		if c >= 33 && c <= 47 || c >= 58 && c <= 64 || c >= 91 && c <= 96 || c >= 123 && c <= 126 {
			want = str(string(c))
		}
		if l, e := mark.Inlines(`\` + string(c)); e != api.OK || !mark.Same(l, doc(want)) {
			t.Errorf("a backslash and %q: %s", c, show(l))
		}
	}
	expectInlines(t, map[string]string{
		"":           "",
		"a":          `str"a"`,
		`a\`:         `str"a\\"`,
		`\\`:         `str"\\"`,
		`\\\`:        `str"\\\\"`,
		"a\\\nb":     `str"a" hard str"b"`,
		"\\\\\nb":    `str"\\" soft str"b"`,
		"a\nb":       `str"a" soft str"b"`,
		"\n\n":       "soft soft",
		" a \n b ":   `str" a " soft str" b "`,
		"\\\t\\a\\ ": `str"\\\t\\a\\ "`,
		`\*a\*`:      `str"*a*"`,
		`\**a*`:      `str"*" emph(str"a")`,
		"\\`a`":      "str\"`a`\"",
		`\[a](b)`:    `str"[a](b)"`,
		`\![a](b)`:   `str"!" link<b>(str"a")`,
		`!\[a](b)`:   `str"![a](b)"`,
		"\\\xc3\xb6": "str\"\\\\ö\"",
		"# a":        `str"# a"`,
		"- a\n> b":   `str"- a" soft str"> b"`,
	})
}

// Rule 2 of P1.3.
func TestInlinesCode(t *testing.T) {
	expectInlines(t, map[string]string{
		"`a`":         `code"a"`,
		"a`b`c":       `str"a" code"b" str"c"`,
		"` `":         `code" "`,
		"`a":          "str\"`a\"",
		"`":           "str\"`\"",
		"``":          "str\"``\"",
		"``a``":       "str\"``a``\"",
		"``a`":        "str\"``a`\"",
		"```":         "str\"```\"",
		"```a`":       "str\"``\" code\"a\"",
		"`a``":        "code\"a\" str\"`\"",
		"`a``b`":      `code"a" code"b"`,
		"`a\nb`":      "str\"`a\" soft str\"b`\"",
		"`a\n`b`":     "str\"`a\" soft code\"b\"",
		"`\\`":        `code"\\"`,
		"`\\``":       "code\"\\\\\" str\"`\"",
		"`*a*[b](c)`": `code"*a*[b](c)"`,
		"`a\tb`":      `code"a\tb"`,
		"`*`*":        `code"*" str"*"`,
	})
}

// Rules 4 and 5 of P1.3, and P1.5.
func TestInlinesStars(t *testing.T) {
	expectInlines(t, map[string]string{
		"*a*":              `emph(str"a")`,
		"**a**":            `strong(str"a")`,
		"a*b*c":            `str"a" emph(str"b") str"c"`,
		"* a *":            `emph(str" a ")`,
		"*a":               `str"*a"`,
		"**a":              `str"**a"`,
		"*":                `str"*"`,
		"**":               `str"**"`,
		"***":              `str"***"`,
		"****":             `str"****"`,
		"*****":            `str"*****"`,
		"**a*":             `str"**a*"`,
		"*a**":             `str"*a**"`,
		"***a***":          `strong(str"*a") str"*"`,
		"***a*":            `str"**" emph(str"a")`,
		"***a**":           `strong(str"*a")`,
		"*a***":            `emph(str"a**")`,
		"****a**":          `str"**" strong(str"a")`,
		"*a*b*c*":          `emph(str"a") str"b" emph(str"c")`,
		"*a*b*":            `emph(str"a") str"b*"`,
		"**a**b**":         `strong(str"a") str"b**"`,
		"*a **b** c*":      `emph(str"a " strong(str"b") str" c")`,
		"**a *b* c**":      `strong(str"a " emph(str"b") str" c")`,
		"**a *b** c*":      `strong(str"a *b") str" c*"`,
		"*a **b* c**":      `emph(str"a **b") str" c**"`,
		"*a\nb*":           `emph(str"a" soft str"b")`,
		"*a\\\nb*":         `emph(str"a" hard str"b")`,
		"*\n*":             `emph(soft)`,
		`*a\*b*`:           `emph(str"a*b")`,
		`*a\\*`:            `emph(str"a\\")`,
		`**a\** b**`:       `strong(str"a** b")`,
		"*a `*` b*":        `emph(str"a " code"*" str" b")`,
		"*a `b* c` d*":     `emph(str"a " code"b* c" str" d")`,
		"**`**`**":         `strong(code"**")`,
		"*a ` b*":          "emph(str\"a ` b\")",
		"*a [b*](c) d*":    `emph(str"a " link<c>(str"b*") str" d")`,
		"*a [b](c*) d*":    `emph(str"a " link<c*>(str"b") str" d")`,
		`*a [b](c "*") d*`: `emph(str"a " link<c>{*}(str"b") str" d")`,
		"*a ![b*](c) d*":   `emph(str"a " image"b*"<c> str" d")`,
		"**a ![**](c)**":   `strong(str"a " image"**"<c>)`,
		"*a [b* c":         `emph(str"a [b") str" c"`,
		"*a [b*](c d)*":    `emph(str"a [b") str"](c d)*"`,
		"*a ![b* c":        `emph(str"a ![b") str" c"`,
		"*[a](b)*":         `emph(link<b>(str"a"))`,
		"*a [](b*) c*":     `emph(str"a [](b") str") c*"`,
		"`*a` b*":          `code"*a" str" b*"`,
		"*a*`b`*c*":        `emph(str"a") code"b" emph(str"c")`,
	})
}

// P1.4: what is a link.
func TestInlinesLinks(t *testing.T) {
	expectInlines(t, map[string]string{
		"[a](b)":           `link<b>(str"a")`,
		`[a](b "c d")`:     `link<b>{c d}(str"a")`,
		"![a](b)":          `image"a"<b>`,
		`![a](b "c")`:      `image"a"<b>{c}`,
		"![](b)":           `image<b>`,
		"[](b)":            `str"[](b)"`,
		"[ ](b)":           `link<b>(str" ")`,
		"[a]()":            `str"[a]()"`,
		"[a] (b)":          `str"[a] (b)"`,
		"[a](b":            `str"[a](b"`,
		"[a]":              `str"[a]"`,
		"[a":               `str"[a"`,
		"a]":               `str"a]"`,
		"![a]":             `str"![a]"`,
		"!":                `str"!"`,
		"![":               `str"!["`,
		"!a":               `str"!a"`,
		"!![a](b)":         `str"!" image"a"<b>`,
		"[a]( b)":          `str"[a]( b)"`,
		"[a](b )":          `str"[a](b )"`,
		"[a](b\tc)":        `str"[a](b\tc)"`,
		"[a](b\nc)":        `str"[a](b" soft str"c)"`,
		"[a](b(c)":         `str"[a](b(c)"`,
		"[a](b(c))":        `str"[a](b(c))"`,
		`[a](b"c)`:         `str"[a](b\"c)"`,
		`[a](b\)`:          `str"[a](b)"`,
		`[a](b\c)`:         `str"[a](b\\c)"`,
		"[a](b  \"c\")":    `str"[a](b  \"c\")"`,
		"[a](b\t\"c\")":    `str"[a](b\t\"c\")"`,
		`[a](b "c" )`:      `str"[a](b \"c\" )"`,
		`[a](b "c)`:        `str"[a](b \"c)"`,
		`[a](b "c"d")`:     `str"[a](b \"c\"d\")"`,
		`[a](b "c\"d")`:    `str"[a](b \"c\"d\")"`,
		"[a](b \"c\nd\")":  `str"[a](b \"c" soft str"d\")"`,
		`[a](b 'c')`:       `str"[a](b 'c')"`,
		`[a](b "c](d) [")`: `link<b>{c](d) [}(str"a")`,
		"[a](b \"\tc\")":   "link<b>{\tc}(str\"a\")",
		"[a](ö~'<>!*_[`])": "link<ö~'<>!*_[`]>(str\"a\")",
		"[a](b)(c)":        `link<b>(str"a") str"(c)"`,
		"[a](b)[c](d)":     `link<b>(str"a") link<d>(str"c")`,
		"[a]xb)":           `str"[a]xb)"`,
		"[a][b)":           `str"[a][b)"`,
		`[a](b "c\d")`:     `str"[a](b \"c\\d\")"`,
		"[a]\n(b)":         `str"[a]" soft str"(b)"`,
		"[a](\x7f)":        "link<\x7f>(str\"a\")",
		`[a](b "c")d`:      `link<b>{c}(str"a") str"d"`,
	})
}

// P1.4: matching brackets.
func TestInlinesBrackets(t *testing.T) {
	expectInlines(t, map[string]string{
		"[a [b] c](d)":           `link<d>(str"a [b] c")`,
		"[a [b](c)":              `str"[a " link<c>(str"b")`,
		"[a ] b](c)":             `str"[a ] b](c)"`,
		"[[a]](b)":               `link<b>(str"[a]")`,
		"[[a](b)":                `str"[" link<b>(str"a")`,
		"[[](b)":                 `str"[[](b)"`,
		`[a \] b](c)`:            `link<c>(str"a ] b")`,
		`[a \[ b](c)`:            `link<c>(str"a [ b")`,
		`[a\\](b)`:               `link<b>(str"a\\")`,
		"[`]`](a)":               `link<a>(code"]")`,
		"[`[`](a)":               `link<a>(code"[")`,
		"[a `](b)":               "link<b>(str\"a `\")",
		"[a ``]`](b)":            "str\"[a ``]`](b)\"",
		"[a ``](b)":              "link<b>(str\"a ``\")",
		"[a `b](c) d` e](f)":     "link<f>(str\"a \" code\"b](c) d\" str\" e\")",
		"[a `b](c)\nd` e](f)":    "link<c>(str\"a `b\") soft str\"d` e](f)\"",
		"![a [b] c](d)":          `image"a [b] c"<d>`,
		"![a ![b](c) d](e)":      `image"a ![b](c) d"<e>`,
		"![a [b](c)":             `str"![a " link<c>(str"b")`,
		"[a\nb](c)":              `link<c>(str"a" soft str"b")`,
		"[\n](a)":                `link<a>(soft)`,
		"[*a* **b** `c`\\\n](d)": `link<d>(emph(str"a") str" " strong(str"b") str" " code"c" hard)`,
		"*[a](b*":                `emph(str"[a](b")`,
		"[*a](b)*":               `link<b>(str"*a") str"*"`,
	})
}

// P1.4: Links in Links, Images in them, and descriptions.
func TestInlinesInsideLinks(t *testing.T) {
	expectInlines(t, map[string]string{
		"[a [b](c)](d)":         `link<d>(str"a [b](c)")`,
		"[a ![b](c) d](e)":      `link<e>(str"a " image"b"<c> str" d")`,
		"[![a](b)](c)":          `link<c>(image"a"<b>)`,
		"[*a [b](c)*](d)":       `link<d>(emph(str"a [b](c)"))`,
		"[*a [b*](c)](d)":       `link<d>(emph(str"a [b") str"](c)")`,
		"[*a ![b*](c)*](d)":     `link<d>(emph(str"a " image"b*"<c>))`,
		"[**[a](b)**](c)":       `link<c>(strong(str"[a](b)"))`,
		"![*a* `b`](c)":         "image\"*a* `b`\"<c>",
		`![a\]\*\\\b](c)`:       `image"a]*\\\\b"<c>`,
		"![a\nb\\\nc](d)":       `image"a b\\ c"<d>`,
		"![a\\!\t](c)":          `image"a!\t"<c>`,
		"![[a](b)](c)":          `image"[a](b)"<c>`,
		"[a ![b [c](d)](e)](f)": `link<f>(str"a " image"b [c](d)"<e>)`,
	})
}

// Thousands of brackets and stars must not take a time that grows with their square, let alone faster.
func TestInlinesManyBrackets(t *testing.T) {
	for _, unit := range []string{"[", "![", "[]", "[a](", "*a ", "**a ", "*a **b ", "`", "[`", "*[", "**[*", "[*](b)", "[a](b`", "[ [x](y`z) ", "*a* ", "***", "]("} {
		for _, s := range []string{
			strings.Repeat(unit, api.MaxBody/len(unit)),
			strings.Repeat(unit, api.MaxBody/2/len(unit)) + strings.Repeat("]", api.MaxBody/2),
			"*" + strings.Repeat(unit, (api.MaxBody-2)/len(unit)) + "*",
			"**[" + strings.Repeat(unit, (api.MaxBody-10)/len(unit)) + "](a)**",
		} {
			l, e := mark.Inlines(s)
			if e != api.OK && e != api.ErrLarge {
				t.Errorf("%s: error %d", short(s), e)
			}
			if e == api.OK && mark.Check(doc(para(l...))) != api.OK {
				t.Errorf("%s: not valid", short(s))
			}
		}
	}
	n := api.MaxBody/2 - 2
	s := strings.Repeat("[", n) + strings.Repeat("]", n) + "(a)"
	if l, e := mark.Inlines(s); e != api.OK || len(l) != 1 || l[0].Kind != mark.Link || len(l[0].Kids) != 1 || l[0].Kids[0].Text != s[1:2*n-1] {
		t.Errorf("%s: error %d, %d nodes", short(s), e, len(l))
	}
}
