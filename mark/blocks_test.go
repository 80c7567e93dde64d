package mark_test

import (
	"strings"
	"testing"

	"masthead/api"
	"masthead/mark"
)

// P1.1: errors and their order.
func TestParseErrors(t *testing.T) {
	quotes := func(n int) string { return strings.Repeat(">", n) }
	bullets := func(n int) string { return strings.Repeat("- ", n) }
	for _, c := range []struct {
		text string
		want api.Errno
	}{
		{strings.Repeat("a", api.MaxBody), api.OK},
		{strings.Repeat("a", api.MaxBody+1), api.ErrLarge},
		{strings.Repeat("\n", api.MaxBody), api.OK},
		{strings.Repeat("\n", api.MaxBody+1), api.ErrLarge},
		{strings.Repeat("\x00", api.MaxBody+1), api.ErrLarge},
		{"a\x00", api.ErrByte},
		{"a\x08b", api.ErrByte},
		{"a\x0b", api.ErrByte},
		{"a\r\n", api.ErrByte},
		{"```\n\x1f", api.ErrByte},
		{"\x1f", api.ErrByte},
		{"a\tb\n\x7f\x80\xff", api.OK},
		{quotes(13) + "\x01", api.ErrByte},
		{quotes(11) + "a", api.OK},
		{quotes(12), api.OK},
		{quotes(12) + " \t", api.OK},
		{quotes(12) + "a", api.ErrDeep},
		{quotes(13), api.ErrDeep},
		{bullets(6), api.OK},
		{bullets(6) + "a", api.ErrDeep},
		{bullets(5) + "a", api.OK},
		{quotes(11) + "- ", api.ErrDeep},
		{quotes(10) + "- ", api.OK},
		{quotes(9) + "| a |", api.OK},
		{quotes(10) + "| a |", api.ErrDeep},
		{quotes(10) + "|  |", api.ErrDeep},
		{quotes(11) + "# *a*", api.OK},
		{quotes(12) + "# a", api.ErrDeep},
		{quotes(12) + "---", api.ErrDeep},
		{quotes(12) + "```", api.ErrDeep},
		{strings.Repeat("---\n", api.MaxNodes), api.OK},
		{strings.Repeat("---\n", api.MaxNodes+1), api.ErrLarge},
		{strings.Repeat("# \n", api.MaxNodes), api.OK},
		{strings.Repeat("# \n", api.MaxNodes+1), api.ErrLarge},
		{strings.Repeat("a\n", api.MaxNodes/2), api.OK},
		{strings.Repeat("a\n", api.MaxNodes/2+1), api.ErrLarge},
		{strings.Repeat("`a`", api.MaxNodes-1), api.OK},
		{strings.Repeat("`a`", api.MaxNodes), api.ErrLarge},
		{"- " + strings.Repeat("`a`", api.MaxNodes-3), api.OK},
		{"- " + strings.Repeat("`a`", api.MaxNodes-2), api.ErrLarge},
		{"|  |" + strings.Repeat("  |", api.MaxNodes-3), api.OK},
		{"|  |" + strings.Repeat("  |", api.MaxNodes-2), api.ErrLarge},
		{strings.Repeat("# \n", api.MaxNodes+1) + quotes(13), api.ErrDeep},
		{quotes(13) + "\n" + strings.Repeat("# \n", api.MaxNodes+1), api.ErrDeep},
	} {
		l, e := mark.Parse(c.text)
		if e != c.want {
			t.Errorf("Parse(%s): error %d, want %d", short(c.text), e, c.want)
		}
		if e != api.OK && len(l) != 0 {
			t.Errorf("Parse(%s): a document beside an error", short(c.text))
		}
	}
}

// 1.1: lines, and rule 1 of P1.1.
func TestParseEmptyLines(t *testing.T) {
	expectParse(t, map[string]string{
		"":              "",
		"\n":            "",
		"\n\n":          "",
		" ":             "",
		"\t \n \t\n":    "",
		"a":             `para(str"a")`,
		"a\n":           `para(str"a")`,
		"a\n\n":         `para(str"a")`,
		"\n \na\n\t\nb": `para(str"a") para(str"b")`,
		"```\n":         `fence`,
		"```\n\n":       `fence"\n"`,
		"```\n\n\n":     `fence"\n\n"`,
	})
}

// Rules 2 and 3 of P1.1.
func TestParseHeadingsAndRules(t *testing.T) {
	expectParse(t, map[string]string{
		"# a":              `heading1(str"a")`,
		"## a":             `heading2(str"a")`,
		"### a":            `heading3(str"a")`,
		"#### a":           `heading4(str"a")`,
		"##### a":          `heading5(str"a")`,
		"###### a":         `heading6(str"a")`,
		"####### a":        `para(str"####### a")`,
		"#a":               `para(str"#a")`,
		"#\ta":             `para(str"#\ta")`,
		"#":                `para(str"#")`,
		"# ":               `heading1`,
		"##  \t ":          `heading2`,
		"#  \t a b \t":     `heading1(str"a b")`,
		"# # a #":          `heading1(str"# a #")`,
		"# *a* `b`":        `heading1(emph(str"a") str" " code"b")`,
		"# a\nb\n# c":      `heading1(str"a") para(str"b") heading1(str"c")`,
		"# a\\\nb":         `heading1(str"a\\") para(str"b")`,
		"a\n# b":           `para(str"a") heading1(str"b")`,
		" # a":             `para(str"# a")`,
		"---":              `rule`,
		"--- \t ":          `rule`,
		"--":               `para(str"--")`,
		"----":             `para(str"----")`,
		"---a":             `para(str"---a")`,
		"--- a":            `para(str"--- a")`,
		" ---":             `para(str"---")`,
		"\t---":            `para(str"---")`,
		"---\n---\na\n---": `rule rule para(str"a") rule`,
	})
}

// Rule 4 of P1.1.
func TestParseFences(t *testing.T) {
	expectParse(t, map[string]string{
		"```\na\n```":             `fence"a\n"`,
		"```\n```":                `fence`,
		"```":                     `fence`,
		"``` go x \t":             `fence<go x>`,
		"```go\n a \n\t\n```":     `fence" a \n\t\n"<go>`,
		"````\n```":               "fence<`>",
		"```a`b\nc":               "fence\"c\\n\"<a`b>",
		"```\n```` \n ```\n```x":  "fence\"```` \\n ```\\n```x\\n\"",
		"```\na\n``` \t\nb":       `fence"a\n" para(str"b")`,
		"```\na":                  `fence"a\n"`,
		"```\n\n \n":              `fence"\n \n"`,
		"```\n# a\n> b\n- c\n```": `fence"# a\n> b\n- c\n"`,
		"a\n```\nb\n```\nc":       `para(str"a") fence"b\n" para(str"c")`,
		" ```\na":                 "para(str\"```\" soft str\"a\")",
		"``\na":                   "para(str\"``\" soft str\"a\")",
		"```\na\\*&\n```":         `fence"a\\*&\n"`,
		"```a\tb":                 "fence<a\tb>",
	})
}

// Rule 5 of P1.1.
func TestParseQuotes(t *testing.T) {
	expectParse(t, map[string]string{
		">":                    `quote`,
		"> ":                   `quote`,
		"> a":                  `quote(para(str"a"))`,
		">a\n> b\n>c":          `quote(para(str"a" soft str"b" soft str"c"))`,
		">  ```\n> ```\n>  a":  "quote(para(str\"```\") fence\" a\\n\")",
		"> ```\n>  a\n>\n>b":   `quote(fence" a\n\nb\n")`,
		">\t# a":               `quote(para(str"# a"))`,
		"> a\n\n> b":           `quote(para(str"a")) quote(para(str"b"))`,
		"> a\nb":               `quote(para(str"a")) para(str"b")`,
		"> a\n>\n> b":          `quote(para(str"a") para(str"b"))`,
		">> a\n> > b\n> c":     `quote(quote(para(str"a" soft str"b")) para(str"c"))`,
		"> - a\n>   b\n> # c":  `quote(list-1(item(para(str"a" soft str"b"))) heading1(str"c"))`,
		"> | a |\n> | b |":     `quote(table(row(cell(str"a")) row(cell(str"b"))))`,
		"a\n> b":               `para(str"a") quote(para(str"b"))`,
		" > a":                 `para(str"> a")`,
		"> ```\n> a\nb\n```\n": `quote(fence"a\n") para(str"b") fence`,
	})
}

// Rule 6 of P1.1: markers.
func TestParseMarkers(t *testing.T) {
	expectParse(t, map[string]string{
		"- a":              `list-1(item(para(str"a")))`,
		"- ":               `list-1(item)`,
		"-":                `para(str"-")`,
		"-a":               `para(str"-a")`,
		"-\ta":             `para(str"-\ta")`,
		"* a":              `para(str"* a")`,
		"+ a":              `para(str"+ a")`,
		"1. a":             `list1(item(para(str"a")))`,
		"0. a":             `list(item(para(str"a")))`,
		"9999. a":          `list9999(item(para(str"a")))`,
		"0007. a":          `list7(item(para(str"a")))`,
		"12345. a":         `para(str"12345. a")`,
		"1.a":              `para(str"1.a")`,
		"1.":               `para(str"1.")`,
		"1.\ta":            `para(str"1.\ta")`,
		"1) a":             `para(str"1) a")`,
		". a":              `para(str". a")`,
		" - a":             `para(str"- a")`,
		" 1. a":            `para(str"1. a")`,
		"- a\n- b\n- c":    `list-1(item(para(str"a")) item(para(str"b")) item(para(str"c")))`,
		"5. a\n3. b\n3. c": `list5(item(para(str"a")) item(para(str"b")) item(para(str"c")))`,
		"- a\n1. b\n- c":   `list-1(item(para(str"a"))) list1(item(para(str"b"))) list-1(item(para(str"c")))`,
		"- a\n\n \n- b":    `list-1(item(para(str"a")) item(para(str"b")))`,
		"- a\n\nb\n- c":    `list-1(item(para(str"a"))) para(str"b") list-1(item(para(str"c")))`,
		"- a\n---\n- b":    `list-1(item(para(str"a"))) rule list-1(item(para(str"b")))`,
		"a\n- b":           `para(str"a") list-1(item(para(str"b")))`,
		"a\n1. b":          `para(str"a") list1(item(para(str"b")))`,
		"- - a\n- b":       `list-1(item(list-1(item(para(str"a")))) item(para(str"b")))`,
	})
}

// Rule 6 of P1.1: what an item has.
func TestParseItems(t *testing.T) {
	expectParse(t, map[string]string{
		"- a\n  b\nc":                    `list-1(item(para(str"a" soft str"b"))) para(str"c")`,
		"- a\n b":                        `list-1(item(para(str"a"))) para(str"b")`,
		"- a\n\tb":                       `list-1(item(para(str"a"))) para(str"b")`,
		"- a\n\n  b":                     `list-1(item(para(str"a") para(str"b")))`,
		"- a\n\n\n  b\n\nc":              `list-1(item(para(str"a") para(str"b"))) para(str"c")`,
		"- a\n\n b":                      `list-1(item(para(str"a"))) para(str"b")`,
		"10. a\n    b\n   c":             `list10(item(para(str"a" soft str"b"))) para(str"c")`,
		"1. a\n   - b\n   - c":           `list1(item(para(str"a") list-1(item(para(str"b")) item(para(str"c")))))`,
		"9. a\n10. b\n    c\n   d":       `list9(item(para(str"a")) item(para(str"b" soft str"c"))) para(str"d")`,
		"- a\n  - b\n    - c\n- d":       `list-1(item(para(str"a") list-1(item(para(str"b") list-1(item(para(str"c")))))) item(para(str"d")))`,
		"- ```\n  a\n\n   b\n  ```\n- c": `list-1(item(fence"a\n\n b\n") item(para(str"c")))`,
		"- ```\n  a\n\n\nb":              `list-1(item(fence"a\n")) para(str"b")`,
		"- ```\n  a\n\n\n":               `list-1(item(fence"a\n"))`,
		"- ```\n     \n  a":              `list-1(item(fence"\na\n"))`,
		"- ```\n\t\n  a":                 `list-1(item(fence"\na\n"))`,
		"- ```\n\n- a":                   `list-1(item(fence) item(para(str"a")))`,
		"- \n  a":                        `list-1(item(para(str"a")))`,
		"- \n\n  a":                      `list-1(item(para(str"a")))`,
		"- # a\n  b":                     `list-1(item(heading1(str"a") para(str"b")))`,
		"- > a\n  > b\n> c":              `list-1(item(quote(para(str"a" soft str"b")))) quote(para(str"c"))`,
		"- ---\n  | a |":                 `list-1(item(rule table(row(cell(str"a")))))`,
		"-   a":                          `list-1(item(para(str"a")))`,
		"-  # a":                         `list-1(item(para(str"# a")))`,
		"- a\n   # b":                    `list-1(item(para(str"a" soft str"# b")))`,
	})
}

// Rule 7 of P1.1.
func TestParseTables(t *testing.T) {
	expectParse(t, map[string]string{
		"| a |":                  `table(row(cell(str"a")))`,
		"|  |":                   `table(row(cell))`,
		"| |":                    `para(str"| |")`,
		"||":                     `para(str"||")`,
		"| a | b |\n| c |":       `table(row(cell(str"a") cell(str"b")) row(cell(str"c")))`,
		"| a | b | c |":          `table(row(cell(str"a") cell(str"b") cell(str"c")))`,
		"|  |  |":                `table(row(cell cell))`,
		"|  | a |  |":            `table(row(cell cell(str"a") cell))`,
		"| a | | b |":            `table(row(cell(str"a") cell(str"| b")))`,
		"| | a |":                `table(row(cell(str"| a")))`,
		"| a | |":                `table(row(cell(str"a |")))`,
		"| a|b |":                `table(row(cell(str"a|b")))`,
		"| a |b |":               `table(row(cell(str"a |b")))`,
		"| a| b |":               `table(row(cell(str"a| b")))`,
		`| a \| b |`:             `table(row(cell(str"a | b")))`,
		`| \| |`:                 `table(row(cell(str"|")))`,
		"| \t a \t | b  |":       `table(row(cell(str"a") cell(str"b")))`,
		"| *a | b* |":            `table(row(cell(str"*a") cell(str"b*")))`,
		"| *a* | `b` |":          `table(row(cell(emph(str"a")) cell(code"b")))`,
		"| a | ":                 `para(str"| a |")`,
		"| a |\t":                `para(str"| a |")`,
		"|a |":                   `para(str"|a |")`,
		"| a|":                   `para(str"| a|")`,
		" | a |":                 `para(str"| a |")`,
		"|\ta |":                 `para(str"|\ta |")`,
		`| a \|`:                 `para(str"| a |")`,
		"a\n| b |\nc":            `para(str"a") table(row(cell(str"b"))) para(str"c")`,
		"| a |\n\n| b |":         `table(row(cell(str"a"))) table(row(cell(str"b")))`,
		"| # a | - b | > c |":    `table(row(cell(str"# a") cell(str"- b") cell(str"> c")))`,
		"| a\\ |":                `table(row(cell(str"a\\")))`,
		"| ![a](b \"c | d\") |":  `table(row(cell(str"![a](b \"c") cell(str"d\")")))`,
		"| [a](b) | ![c](d) | |": `table(row(cell(link<b>(str"a")) cell(image"c"<d> str" |")))`,
	})
}

// Rule 8 of P1.1, and P1.2.
func TestParseParas(t *testing.T) {
	expectParse(t, map[string]string{
		"a\nb\n\nc":              `para(str"a" soft str"b") para(str"c")`,
		" \ta \t\n\t b \n c":     `para(str"a" soft str"b" soft str"c")`,
		"a\\\nb":                 `para(str"a" hard str"b")`,
		"a\\  \n  b":             `para(str"a" hard str"b")`,
		"a\\":                    `para(str"a\\")`,
		"*a\nb*":                 `para(emph(str"a" soft str"b"))`,
		"*a\n\nb*":               `para(str"*a") para(str"b*")`,
		"*a\n# b*":               `para(str"*a") heading1(str"b*")`,
		"[a\n  b](c)":            `para(link<c>(str"a" soft str"b"))`,
		"a\n    # b\n  - c":      `para(str"a" soft str"# b" soft str"- c")`,
		"    a":                  `para(str"a")`,
		"a\n---\nb\n```\nc":      `para(str"a") rule para(str"b") fence"c\n"`,
		"`a\nb`":                 "para(str\"`a\" soft str\"b`\")",
		"- > a\n  > # b\n  >> c": `list-1(item(quote(para(str"a") heading1(str"b") quote(para(str"c")))))`,
		"> ---\n> ```\n> # x":    `quote(rule fence"# x\n")`,
	})
}

// The examples of 1.7.
func TestParseExamples(t *testing.T) {
	expectParse(t, map[string]string{
		"a *b **c** d*":            `para(str"a " emph(str"b " strong(str"c") str" d"))`,
		"*a **b* c**":              `para(emph(str"a **b") str" c**")`,
		"- a\n  - b\n- c":          `list-1(item(para(str"a") list-1(item(para(str"b")))) item(para(str"c")))`,
		`[x](y "z")![\]](w)`:       `para(link<y>{z}(str"x") image"]"<w>)`,
		"| a | b |":                `table(row(cell(str"a") cell(str"b")))`,
		"# A\n\nb [c](d)\n\n- e\n": `heading1(str"A") para(str"b " link<d>(str"c")) list-1(item(para(str"e")))`,
	})
}
