package mark_test

import (
	"testing"

	"masthead/api"
	"masthead/mark"
)

// expectPrintable checks that documents are printable, and that Parse reads what is printed as the same document.
func expectPrintable(t *testing.T, docs ...[]mark.Node) {
	t.Helper()
	for _, d := range docs {
		if !mark.Printable(d) {
			t.Errorf("not printable: %s", show(d))
		}
		s, e := mark.Print(d)
		if e != api.OK {
			t.Errorf("Print of %s: error %d", show(d), e)
		}
		if l, e := mark.Parse(s); e != api.OK || !mark.Same(l, d) {
			t.Errorf("%q is read as\n%s, error %d, and was\n%s", s, show(l), e, show(d))
		}
	}
}

// expectNotPrintable checks that documents are valid, but not printable.
func expectNotPrintable(t *testing.T, docs ...[]mark.Node) {
	t.Helper()
	for _, d := range docs {
		if e := mark.Check(d); e != api.OK {
			t.Errorf("not valid: %s: error %d", show(d), e)
		}
		if mark.Printable(d) {
			t.Errorf("printable: %s", show(d))
		}
		if s, e := mark.Print(d); e != api.ErrForm || s != "" {
			t.Errorf("Print of %s: %q, error %d", show(d), s, e)
		}
	}
}

// paras are documents of one Para each.
func paras(l ...[]mark.Node) [][]mark.Node {
	var docs [][]mark.Node
	for _, inlines := range l {
		docs = append(docs, doc(para(inlines...)))
	}
	return docs
}

// P1.7: what must have Kids.
func TestPrintableKids(t *testing.T) {
	expectPrintable(t, nil, doc(rule()), doc(heading(1)), doc(table(row(cell()))), doc(fence("", "")), doc(quote(rule())), doc(list(-1, item(rule()))))
	expectNotPrintable(t,
		doc(quote()), doc(list(-1)), doc(list(1)), doc(list(-1, item())), doc(list(-1, item(text("a")), item())), doc(table()), doc(table(row())),
		doc(table(row(cell()), row())), doc(para()), doc(para(str("a"), emph())), doc(para(str("a"), strong())), doc(para(str("a"), link("b", ""))),
		doc(rule(), quote(quote())), doc(list(-1, item(para()))))
}

// P1.7: lists next to each other.
func TestPrintableLists(t *testing.T) {
	one := item(text("a"))
	expectPrintable(t,
		doc(list(-1, one), list(1, one), list(-1, one)),
		doc(list(-1, one), rule(), list(-1, one)),
		doc(list(0, one), text("b"), list(3, one)),
		doc(list(-1, item(list(-1, one)), item(list(-1, one)))),
		doc(quote(list(-1, one)), list(-1, one)))
	expectNotPrintable(t,
		doc(list(-1, one), list(-1, one)),
		doc(list(1, one), list(1, one)),
		doc(list(0, one), list(9999, one)),
		doc(rule(), list(1, one), list(2, one), rule()),
		doc(quote(list(-1, one), list(-1, one))),
		doc(list(1, item(list(-1, one), list(-1, one)))))
}

// P1.7: Fences.
func TestPrintableFences(t *testing.T) {
	for _, s := range []string{"", "a\n", "\n", "\n\na\n\n", " a\n", "a \n", "\ta\n", "```a\n", " ```\n", "````\n", "``\n", "``` a\n", "> a\n# b\n", "\\\x7f\n"} {
		expectPrintable(t, doc(fence("", s)), doc(list(1, item(fence("", s)))), doc(quote(fence("x", s))))
	}
	for _, s := range []string{"a", "a\nb", " \n", "\t\n", "a\n  \nb\n", "```\n", "a\n```\n", "``` \n", "a\n```\t \nb\n"} {
		expectNotPrintable(t, doc(fence("", s)), doc(quote(fence("", s))))
	}
	expectPrintable(t, doc(fence("go", "")), doc(fence("a b\tc", "")), doc(fence("`", "a\n")), doc(fence("```", "a\n")))
	expectNotPrintable(t, doc(fence(" a", "")), doc(fence("a ", "")), doc(fence("\ta", "")), doc(fence("a\t", "")), doc(fence(" ", "")))
}

// P1.7: Str and Code.
func TestPrintableStrs(t *testing.T) {
	expectPrintable(t, paras(
		doc(str("a"), code("b"), str("c")),
		doc(code("a"), code("b")),
		doc(code(" "), str(" a\tb "), code("*[]\\|")),
		doc(emph(str(" "))),
	)...)
	expectNotPrintable(t, paras(
		doc(str("a"), str("b")),
		doc(emph(str("a"), str("b"))),
		doc(code("x"), str("a"), str("b")),
		doc(str("")),
		doc(code("")),
		doc(code("a"), str(""), code("b")),
		doc(code("`")),
		doc(code("a`b")),
		doc(link("x", "", code("`"))),
	)...)
	expectNotPrintable(t, doc(heading(1, str("a"), str("b"))), doc(table(row(cell(str("a"), str("b"))))))
}

// P1.7: Dest and Title.
func TestPrintableTargets(t *testing.T) {
	for _, make1 := range []func(dest, title string) mark.Node{
		func(dest, title string) mark.Node { return link(dest, title, str("a")) },
		func(dest, title string) mark.Node { return image(dest, title, "a") },
	} {
		for b := 32; b < 256; b++ {
			s := string([]byte{byte(b)})
			check := expectPrintable
			if b == ' ' || b == '(' || b == ')' || b == '"' || b == '\\' {
				check = expectNotPrintable
			}
			check(t, paras(doc(make1(s, "")), doc(make1("x"+s+"y", "")))...)
			check = expectPrintable
			if b == '"' || b == '\\' {
				check = expectNotPrintable
			}
			check(t, paras(doc(make1("x", s)), doc(make1("x", "y"+s+"z")))...)
		}
		expectNotPrintable(t, paras(doc(make1("", "")), doc(make1("", "a")), doc(str("a"), emph(make1("", ""))))...)
		expectPrintable(t, doc(para(make1("a", "\tb c "))))
	}
	expectPrintable(t, paras(doc(image("a", "", "")), doc(image("a", "", " ![](\\\\`)\t*\"")))...)
}

// P1.7: bars in Cells.
func TestPrintableCells(t *testing.T) {
	cells := func(l ...mark.Node) []mark.Node { return doc(table(row(cell(l...), cell(str("z"))))) }
	for _, n := range []mark.Node{code("a|b"), link("a|", "", str("x")), link("a", "b|", str("x")), image("a|", "", "x"), image("a", "|", "x"), image("a", "", "x|")} {
		expectPrintable(t, doc(para(n)), doc(heading(1, n)))
		expectNotPrintable(t, cells(n), cells(emph(str("a"), n)), doc(table(row(cell(), cell(n)))), doc(quote(cells(n)...)))
	}
	expectPrintable(t, cells(str("|")), cells(str("a | b")), cells(str("\\|")), cells(code("a"), str(" || "), image("b", "c", "d")), cells(link("a", "", str("|"))))
	expectNotPrintable(t, cells(link("a", "", image("b", "", "|"))), cells(link("a", "", code("|"))))
}

// P1.7: Images in a Link.
func TestPrintableImagesInLinks(t *testing.T) {
	for _, n := range []mark.Node{image("[", "", ""), image("a]", "", ""), image("a`", "", ""), image("a", "[", ""), image("a", "b]c", ""), image("a", "`", "")} {
		expectPrintable(t, doc(para(n)), doc(para(emph(str("x"), n))))
		expectNotPrintable(t, paras(doc(link("y", "", n)), doc(link("y", "", str("x"), n, str("z"))), doc(link("y", "", emph(str("x"), n))), doc(emph(link("y", "", strong(n)))))...)
	}
	expectPrintable(t, paras(doc(link("[]`", "[]`", str("a"))), doc(link("a", "", image("b", "c(d)", "[]`\\"))), doc(link("a", "", code("[]"), str("[`"))))...)
}

// P1.7: the ends of a line and of a block.
func TestPrintableEnds(t *testing.T) {
	around := []func(l ...mark.Node) []mark.Node{
		func(l ...mark.Node) []mark.Node { return doc(para(l...)) },
		func(l ...mark.Node) []mark.Node { return doc(heading(2, l...)) },
		func(l ...mark.Node) []mark.Node { return doc(table(row(cell(l...)))) },
	}
	for _, put := range around {
		expectPrintable(t, put(str("a")), put(str("a b")), put(str("a "), code("b"), str(" c")), put(emph(str(" a "))), put(link("b", "", str(" a "))), put(code(" ")))
		expectNotPrintable(t,
			put(str(" a")), put(str("\ta")), put(str("a ")), put(str("a\t")), put(str(" ")), put(code("b"), str(" ")), put(str(" "), code("b")),
			put(soft()), put(hard()), put(soft(), str("a")), put(str("a"), soft()), put(hard(), str("a")), put(str("a"), hard()))
	}
	expectPrintable(t, paras(
		doc(str("a"), soft(), str("b"), hard(), str("c")),
		doc(code("a"), soft(), emph(str("b")), hard(), link("c", "", str("d"))),
		doc(emph(str("a"), soft(), str("b"))),
		doc(link("x", "", str("a"), hard(), str("b"))),
		doc(emph(str("a ")), soft(), emph(str(" b"))),
	)...)
	expectNotPrintable(t, paras(
		doc(str("a"), soft(), soft(), str("b")), doc(str("a"), soft(), hard(), str("b")), doc(str("a"), hard(), soft(), str("b")), doc(str("a"), hard(), hard(), str("b")),
		doc(str("a "), soft(), str("b")), doc(str("a\t"), hard(), str("b")), doc(str("a"), soft(), str(" b")), doc(str("a"), hard(), str("\tb")),
		doc(emph(str("a"), soft(), str(" b"))), doc(link("x", "", str("a "), hard(), str("b"))), doc(strong(str("a"), soft(), soft(), str("b"))),
	)...)
	for _, put := range around[1:] {
		for _, br := range []mark.Node{soft(), hard()} {
			expectNotPrintable(t, put(str("a"), br, str("b")), put(emph(str("a"), br, str("b"))), put(str("x"), link("y", "", strong(str("a"), br, str("b")))))
		}
	}
}

// P1.7: Emph and Strong at ends and next to each other.
func TestPrintableStars(t *testing.T) {
	expectPrintable(t, paras(
		doc(emph(str("a "), strong(str("b")), str(" c"))),
		doc(strong(str("a"), emph(str("b")), code("c"))),
		doc(emph(str("a")), str("b"), strong(str("c"))),
		doc(emph(link("a", "", strong(str("b"))))),
		doc(link("a", "", emph(str("b")))),
		doc(link("a", "", strong(str("b")), code("c"), emph(str("d")))),
		doc(emph(str("a"), strong(str("b"), link("c", "", str("d"))), str("e"))),
	)...)
	for _, outer := range []func(l ...mark.Node) mark.Node{emph, strong} {
		for _, inner := range []mark.Node{emph(str("a")), strong(str("a"))} {
			expectNotPrintable(t, paras(doc(outer(inner)), doc(outer(inner, str("b"))), doc(outer(str("b"), inner)), doc(outer(str("b")), inner), doc(inner, outer(str("b"))), doc(link("x", "", outer(str("b")), inner)))...)
		}
	}
	for _, br := range []mark.Node{soft(), hard()} {
		for _, outer := range []func(l ...mark.Node) mark.Node{emph, strong, func(l ...mark.Node) mark.Node { return link("x", "", l...) }} {
			expectNotPrintable(t, paras(doc(outer(br)), doc(outer(br, str("a"))), doc(outer(str("a"), br)), doc(str("x"), outer(br, code("a")), str("y")))...)
		}
	}
}

// P1.7: inlines in their like, at whatever depth.
func TestPrintableNesting(t *testing.T) {
	a, b := str("a"), str("b")
	expectNotPrintable(t, paras(
		doc(emph(a, emph(b), a)), doc(strong(a, strong(b), a)), doc(link("x", "", a, link("y", "", b), a)),
		doc(emph(a, strong(a, emph(b), a), a)), doc(strong(a, emph(a, strong(b), a), a)),
		doc(emph(a, link("x", "", a, emph(b)))), doc(strong(link("x", "", strong(b)))), doc(link("x", "", emph(a, link("y", "", b)))),
		doc(link("x", "", emph(a, strong(a, link("y", "", b), a), a))),
	)...)
	expectPrintable(t, doc(para(emph(a, strong(a, link("x", "", b), a), a), strongText(), emph(a))))
}

// strongText is a Str with stars in it.
func strongText() mark.Node { return str("**a** *b*") }
