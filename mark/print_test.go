package mark_test

import (
	"strings"
	"testing"

	"masthead/api"
	"masthead/mark"
)

// expectPrint checks the string of a document, and that it is read as the same document.
func expectPrint(t *testing.T, want string, l ...mark.Node) {
	t.Helper()
	s, e := mark.Print(l)
	if e != api.OK || s != want {
		t.Errorf("Print of %s:\n got %q, error %d\nwant %q", show(l), s, e, want)
	}
	if back, e := mark.Parse(s); e != api.OK || !mark.Same(back, l) {
		t.Errorf("%q is read as\n%s, error %d, and was\n%s", s, show(back), e, show(l))
	}
}

// P1.8: blocks.
func TestPrintBlocks(t *testing.T) {
	expectPrint(t, "")
	expectPrint(t, "a\n", text("a"))
	expectPrint(t, "a\n\nb\n\n---\n", text("a"), text("b"), rule())
	expectPrint(t, "# \n\n###### a\n", heading(1), heading(6, str("a")))
	expectPrint(t, "```\n```\n", fence("", ""))
	expectPrint(t, "```go x\n a\n\n# b\n```\n", fence("go x", " a\n\n# b\n"))
	expectPrint(t, "> a\n>\n> ---\n\n> b\n", quote(text("a"), rule()), quote(text("b")))
	expectPrint(t, "> > a\n> >\n> > b\n", quote(quote(text("a"), text("b"))))
	expectPrint(t, "> ```\n>  a\n>\n> ```\n", quote(fence("", " a\n\n")))
	expectPrint(t, "| a | b |\n|  |\n\n|  |  |\n", table(row(cell(str("a")), cell(str("b"))), row(cell())), table(row(cell(), cell())))
	expectPrint(t, "a\nb\\\nc\n", para(str("a"), soft(), str("b"), hard(), str("c")))
}

// P1.8: lists.
func TestPrintLists(t *testing.T) {
	a, b := item(text("a")), item(text("b"))
	expectPrint(t, "- a\n- b\n", list(-1, a, b))
	expectPrint(t, "0. a\n1. b\n", list(0, a, b))
	expectPrint(t, "9. a\n10. b\n", list(9, a, b))
	expectPrint(t, "9998. a\n9999. b\n9999. a\n", list(9998, a, b, a))
	expectPrint(t, "9999. a\n9999. b\n", list(9999, a, b))
	expectPrint(t, "- a\n\n  b\n- - a\n  - b\n", list(-1, item(text("a"), text("b")), item(list(-1, a, b))))
	expectPrint(t, "9. ```\n   a\n\n   ```\n10. > a\n    >\n    > b\n", list(9, item(fence("", "a\n\n")), item(quote(text("a"), text("b")))))
	expectPrint(t, "- # \n\n  | a |\n  | b |\n", list(-1, item(heading(1), table(row(cell(str("a"))), row(cell(str("b")))))))
	expectPrint(t, "> - a\n>   b\n> - a\n", quote(list(-1, item(para(str("a"), soft(), str("b"))), a)))
	expectPrint(t, "- a\n\n1. b\n\n- a\n", list(-1, a), list(1, b), list(-1, a))
}

// P1.8: inlines.
func TestPrintInlines(t *testing.T) {
	expectPrint(t, "*a* **b** `c` [d](e) ![f](g)\n", para(emph(str("a")), str(" "), strong(str("b")), str(" "), code("c"), str(" "), link("e", "", str("d")), str(" "), image("g", "", "f")))
	expectPrint(t, "[*a*\nb](c \"d e\")![](f \"g\")\n", para(link("c", "d e", emph(str("a")), soft(), str("b")), image("f", "g", "")))
	expectPrint(t, "![\\\\\\`\\[\\]*!|](a)\n", para(image("a", "", "\\`[]*!|")))
	expectPrint(t, "[![a\\]](b)](c)\n", para(link("c", "", image("b", "", "a]"))))
	expectPrint(t, "`\\*[]!|&`\n", para(code("\\*[]!|&")))
	expectPrint(t, "*a **b** c*\n", para(emph(str("a "), strong(str("b")), str(" c"))))
}

// P1.8: the bytes of a Str.
func TestPrintEscapes(t *testing.T) {
	for b := 33; b < 256; b++ {
		s := string([]byte{byte(b)})
		inside, first := s, s
		if strings.Contains("\\`*[]!|", s) {
			inside, first = "\\"+s, "\\"+s
		} else if strings.Contains("#>-", s) {
			first = "\\" + s
		}
		expectPrint(t, first+inside+"\n", text(s+s))
		expectPrint(t, "# "+inside+inside+"\n", heading(1, str(s+s)))
		expectPrint(t, "| "+inside+inside+" |\n", table(row(cell(str(s+s)))))
		expectPrint(t, "x\n"+first+inside+"\n", para(str("x"), soft(), str(s+s)))
		expectPrint(t, "x\\\n"+first+inside+"\n", para(str("x"), hard(), str(s+s)))
		expectPrint(t, "`x`"+inside+inside+"\n", para(code("x"), str(s+s)))
		expectPrint(t, "*"+inside+"x*\n", para(emph(str(s+"x"))))
	}
	for s, want := range map[string]string{
		"1.": "1\\.", "1. a": "1\\. a", "0000.": "0000\\.", "12.34.": "12\\.34.", "1234.a": "1234\\.a", "12345. a": "12345. a", "1": "1", ". a": ". a", "a1. b": "a1. b",
		"1) a": "1) a", "# a": "\\# a", "- a": "\\- a", "---": "\\---", "> a": "\\> a", "a # b": "a # b", "a - 1. b": "a - 1. b", "1*.": "1\\*.", "-1.": "\\-1.",
	} {
		expectPrint(t, want+"\n", text(s))
		expectPrint(t, "x\\\n"+want+"\n", para(str("x"), hard(), str(s)))
		if !strings.Contains(s, "*") {
			expectPrint(t, "## "+s+"\n", heading(2, str(s)))
		}
	}
}

// P1.8: a Str after a line's end inside of an Emph, Strong or Link begins a line of its Para, too.
func TestPrintLineBegins(t *testing.T) {
	expectPrint(t, "*a\n\\# b*\n", para(emph(str("a"), soft(), str("# b"))))
	expectPrint(t, "**a\\\n\\- b**\n", para(strong(str("a"), hard(), str("- b"))))
	expectPrint(t, "[a\n1\\. b](c)\n", para(link("c", "", str("a"), soft(), str("1. b"))))
	expectPrint(t, "*#*\n", para(emph(str("#"))))
	expectPrint(t, "- \\- a\n", list(-1, item(text("- a"))))
	expectPrint(t, "> \\> a\n", quote(text("> a")))
	expectPrint(t, "a\n*- b*\n", para(str("a"), soft(), emph(str("- b"))))
}

// P1.8: the size.
func TestPrintLarge(t *testing.T) {
	for _, c := range []struct {
		doc  []mark.Node
		want api.Errno
	}{
		{doc(text(strings.Repeat("a", api.MaxBody-1))), api.OK},
		{doc(text(strings.Repeat("a", api.MaxBody))), api.ErrLarge},
		{doc(text(strings.Repeat("a", 1_000_000))), api.ErrLarge},
		{doc(text(strings.Repeat("*", api.MaxBody/2-1))), api.OK},
		{doc(text(strings.Repeat("*", api.MaxBody/2))), api.ErrLarge},
		{doc(fence("", strings.Repeat("\n", api.MaxBody-8))), api.OK},
		{doc(fence("", strings.Repeat("\n", api.MaxBody-7))), api.ErrLarge},
		{doc(quote(fence("", strings.Repeat("\n", api.MaxBody/2)))), api.ErrLarge},
		{doc(fence("a", strings.Repeat("\n", api.MaxBody-8))), api.ErrLarge},
		{many(api.MaxNodes, rule()), api.OK},
		{many(api.MaxNodes, heading(3)), api.ErrLarge},
		{doc(text(strings.Repeat("a", 1_000_000)), para()), api.ErrForm},
	} {
		s, e := mark.Print(c.doc)
		if e != c.want {
			t.Errorf("Print of %s: error %d, want %d", short(show(c.doc)), e, c.want)
		}
		if l, _ := mark.Parse(s); e == api.OK && !mark.Same(l, c.doc) || e != api.OK && s != "" {
			t.Errorf("Print of %s: %s", short(show(c.doc)), short(s))
		}
	}
}

// P1.8: what Parse returns need not be printable; where it is, printing and reading it again changes nothing.
func TestPrintParsed(t *testing.T) {
	for _, s := range []string{"- ", ">", "*\n*", "**a***b*", "[*a*\n](b)", "``` \n \n```"} {
		if mark.Printable(parsed(t, s)) {
			t.Errorf("%q is printable", s)
		}
	}
	for _, s := range []string{"a", "a\nb", "# a", "- a\n- b\n\n\n   c", "1. a\n2. b", "> a\nb", "| a |  |", "```x\ny", "*a* **b** `c` [d](e \"f\")", "\\# a\n\\- b\n---\n"} {
		l := parsed(t, s)
		printed, e := mark.Print(l)
		if back, e2 := mark.Parse(printed); e != api.OK || e2 != api.OK || !mark.Same(back, l) {
			t.Errorf("%q is printed as %q", s, printed)
		}
	}
}
