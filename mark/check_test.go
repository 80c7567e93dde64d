package mark_test

import (
	"math"
	"testing"

	"masthead/api"
	"masthead/mark"
)

type checkCase struct {
	name string
	doc  []mark.Node
	want api.Errno
}

func expectCheck(t *testing.T, cases []checkCase) {
	t.Helper()
	for _, c := range cases {
		if e := mark.Check(c.doc); e != c.want {
			t.Errorf("%s: Check is %d, want %d", c.name, e, c.want)
		}
		if c.want != api.OK && mark.Printable(c.doc) {
			t.Errorf("%s: printable, though not valid", c.name)
		}
	}
}

// inlineLevels is an inline that is so many levels deep.
func inlineLevels(n int) mark.Node {
	x := str("a")
	for i := range n - 1 {
		x = kids([]int{mark.Emph, mark.Strong}[i%2], x)
	}
	return x
}

// P1.6: the size.
func TestCheckLarge(t *testing.T) {
	full := kids(mark.Para, many(api.MaxNodes-1, str("a"))...)
	quoted := doc(quote(many(api.MaxNodes-1, rule())...))
	expectCheck(t, []checkCase{
		{"nil", nil, api.OK},
		{"empty", []mark.Node{}, api.OK},
		{"at the top", many(api.MaxNodes, rule()), api.OK},
		{"one more at the top", many(api.MaxNodes+1, rule()), api.ErrLarge},
		{"in a Para", doc(full), api.OK},
		{"one more after a Para", doc(full, rule()), api.ErrLarge},
		{"one more before a Para", doc(rule(), full), api.ErrLarge},
		{"in a Quote", quoted, api.OK},
		{"one more around a Quote", doc(quote(quoted...)), api.ErrLarge},
		{"large before deep", doc(kids(mark.Quote, append(deep(20), many(api.MaxNodes, rule())...)...)), api.ErrLarge},
		{"large before another kind", many(api.MaxNodes+1, str("a")), api.ErrLarge},
		{"very many", many(1_000_000, mark.Node{}), api.ErrLarge},
		{"very deep", deep(100_000), api.ErrLarge},
	})
}

// P1.6: the depth.
func TestCheckDeep(t *testing.T) {
	expectCheck(t, []checkCase{
		{"12 Quotes", deep(12), api.OK},
		{"13 Quotes", deep(13), api.ErrDeep},
		{"a Para in 11", deep(11, text("a")), api.OK},
		{"a Para in 12", deep(12, text("a")), api.ErrDeep},
		{"a List in 10", deep(10, list(-1, item())), api.OK},
		{"a List in 11", deep(11, list(-1, item())), api.ErrDeep},
		{"a Table in 9", deep(9, table(row(cell()))), api.OK},
		{"a Table in 10", deep(10, table(row(cell()))), api.ErrDeep},
		{"12 inlines", doc(para(inlineLevels(12))), api.OK},
		{"13 inlines", doc(para(inlineLevels(13))), api.ErrDeep},
		{"12 inlines in 12 blocks", deep(11, para(inlineLevels(12))), api.OK},
		{"13 inlines in 12 blocks", deep(11, para(inlineLevels(13))), api.ErrDeep},
		{"unknown kinds are blocks", deep(12, mark.Node{Kind: 99}), api.ErrDeep},
		{"kind 0 is a block", deep(12, mark.Node{}), api.ErrDeep},
		{"deep before another kind", append(doc(str("a")), deep(13)...), api.ErrDeep},
		{"deep before a level", append(doc(heading(7)), deep(13)...), api.ErrDeep},
	})
}

// P1.6: which kind can be in which.
func TestCheckKinds(t *testing.T) {
	blocks := map[int]bool{mark.Heading: true, mark.Para: true, mark.Fence: true, mark.Quote: true, mark.List: true, mark.Rule: true, mark.Table: true}
	inlines := map[int]bool{mark.Str: true, mark.Soft: true, mark.Hard: true, mark.Emph: true, mark.Strong: true, mark.Code: true, mark.Link: true, mark.Image: true}
	make1 := func(kind int) mark.Node {
		if kind == mark.Heading {
			return heading(1)
		}
		return mark.Node{Kind: kind}
	}
	places := []struct {
		name string
		fit  map[int]bool
		put  func(n mark.Node) []mark.Node
	}{
		{"top", blocks, func(n mark.Node) []mark.Node { return doc(n) }},
		{"Quote", blocks, func(n mark.Node) []mark.Node { return doc(quote(n)) }},
		{"Item", blocks, func(n mark.Node) []mark.Node { return doc(list(-1, item(n))) }},
		{"List", map[int]bool{mark.Item: true}, func(n mark.Node) []mark.Node { return doc(list(1, n)) }},
		{"Table", map[int]bool{mark.Row: true}, func(n mark.Node) []mark.Node { return doc(table(n)) }},
		{"Row", map[int]bool{mark.Cell: true}, func(n mark.Node) []mark.Node { return doc(table(row(n))) }},
		{"Cell", inlines, func(n mark.Node) []mark.Node { return doc(table(row(cell(n)))) }},
		{"Heading", inlines, func(n mark.Node) []mark.Node { return doc(heading(1, n)) }},
		{"Para", inlines, func(n mark.Node) []mark.Node { return doc(para(n)) }},
		{"Emph", inlines, func(n mark.Node) []mark.Node { return doc(para(emph(n))) }},
		{"Strong", inlines, func(n mark.Node) []mark.Node { return doc(para(strong(n))) }},
		{"Link", inlines, func(n mark.Node) []mark.Node { return doc(para(link("a", "", n))) }},
	}
	for _, p := range places {
		for kind := -2; kind <= 20; kind++ {
			want := api.ErrKind
			if p.fit[kind] {
				want = api.OK
			}
			if e := mark.Check(p.put(make1(kind))); e != want {
				t.Errorf("kind %d in %s: %d, want %d", kind, p.name, e, want)
			}
		}
	}
	expectCheck(t, []checkCase{
		{"greatest kind", doc(mark.Node{Kind: math.MaxInt}), api.ErrKind},
		{"least kind", doc(mark.Node{Kind: math.MinInt}), api.ErrKind},
		{"second block", doc(rule(), str("a")), api.ErrKind},
	})
}

// P1.6: levels.
func TestCheckLevels(t *testing.T) {
	for level := -3; level <= 9; level++ {
		want := api.ErrRange
		if level >= 1 && level <= 6 {
			want = api.OK
		}
		if e := mark.Check(doc(heading(level, str("a")))); e != want {
			t.Errorf("Heading of Level %d: %d", level, e)
		}
	}
	for level, want := range map[int]api.Errno{-2: api.ErrRange, -1: api.OK, 0: api.OK, 1: api.OK, 9999: api.OK, 10000: api.ErrRange, math.MaxInt: api.ErrRange, math.MinInt: api.ErrRange} {
		if e := mark.Check(doc(list(level, item(text("a"))))); e != want {
			t.Errorf("List of Level %d: %d", level, e)
		}
	}
}

// P1.6: fields that a kind does not use.
func TestCheckFields(t *testing.T) {
	full := mark.Node{Level: 1, Text: "a", Dest: "b", Title: "c"}
	uses := map[int]string{
		mark.Heading: "LK", mark.Para: "K", mark.Fence: "TD", mark.Quote: "K", mark.List: "LK", mark.Item: "K", mark.Rule: "",
		mark.Table: "K", mark.Row: "K", mark.Cell: "K", mark.Str: "T", mark.Soft: "", mark.Hard: "", mark.Emph: "K",
		mark.Strong: "K", mark.Code: "T", mark.Link: "DNK", mark.Image: "DNT",
	}
	put := func(n mark.Node) []mark.Node {
		switch {
		case n.Kind >= mark.Str:
			return doc(para(n))
		case n.Kind == mark.Cell:
			return doc(table(row(n)))
		case n.Kind == mark.Row:
			return doc(table(n))
		case n.Kind == mark.Item:
			return doc(list(1, n))
		}
		return doc(n)
	}
	kid := map[int]mark.Node{mark.Quote: rule(), mark.Item: rule(), mark.List: item(), mark.Table: row(), mark.Row: cell()}
	for kind, used := range uses {
		for _, field := range "LTDNK" {
			n := mark.Node{Kind: kind}
			if kind == mark.Heading {
				n.Level = 2
			}
			switch field {
			case 'L':
				n.Level = full.Level
			case 'T':
				n.Text = full.Text
			case 'D':
				n.Dest = full.Dest
			case 'N':
				n.Title = full.Title
			case 'K':
				n.Kids = doc(str("a"))
				if x, ok := kid[kind]; ok {
					n.Kids = doc(x)
				}
			}
			want := api.ErrForm
			for _, u := range used {
				if u == field {
					want = api.OK
				}
			}
			if e := mark.Check(put(n)); e != want {
				t.Errorf("kind %d with field %c: %d, want %d", kind, field, e, want)
			}
		}
	}
	n := str("a")
	n.Kids = []mark.Node{}
	expectCheck(t, []checkCase{{"empty Kids are none", doc(para(n)), api.OK}})
}

// P1.6: bytes.
func TestCheckBytes(t *testing.T) {
	for _, c := range []struct {
		name    string
		put     func(s string) mark.Node
		allowed string
	}{
		{"Str", func(s string) mark.Node { return para(str(s)) }, "\t"},
		{"Code", func(s string) mark.Node { return para(code(s)) }, "\t"},
		{"Text of an Image", func(s string) mark.Node { return para(image("a", "", s)) }, "\t"},
		{"Text of a Fence", func(s string) mark.Node { return fence("", s) }, "\t\n"},
		{"Dest of a Fence", func(s string) mark.Node { return fence(s, "") }, "\t"},
		{"Dest of a Link", func(s string) mark.Node { return para(link(s, "", str("a"))) }, ""},
		{"Dest of an Image", func(s string) mark.Node { return para(image(s, "", "")) }, ""},
		{"Title of a Link", func(s string) mark.Node { return para(link("a", s, str("a"))) }, "\t"},
		{"Title of an Image", func(s string) mark.Node { return para(image("a", s, "")) }, "\t"},
	} {
		for b := range 256 {
			want := api.OK
			if b < 32 {
				want = api.ErrByte
			}
			for _, x := range []byte(c.allowed) {
				if int(x) == b {
					want = api.OK
				}
			}
			if e := mark.Check(doc(c.put("x" + string([]byte{byte(b)}) + "y"))); e != want {
				t.Errorf("%s with byte %d: %d, want %d", c.name, b, e, want)
			}
		}
	}
}

// P1.6 and Z4: which error is first.
func TestCheckOrder(t *testing.T) {
	formKind := para(mark.Node{Kind: mark.Str, Text: "a", Level: 1}, para())
	expectCheck(t, []checkCase{
		{"kind before form", doc(mark.Node{Kind: mark.Str, Level: 1, Text: "\x01"}), api.ErrKind},
		{"kind before range", doc(para(heading(9))), api.ErrKind},
		{"range before form", doc(mark.Node{Kind: mark.Heading, Level: 9, Text: "a"}), api.ErrRange},
		{"no range of a Level that is not used", doc(mark.Node{Kind: mark.Para, Level: 10000}), api.ErrForm},
		{"no range of a Level that is not used", doc(quote(mark.Node{Kind: mark.Rule, Level: -2})), api.ErrForm},
		{"form before byte", doc(para(mark.Node{Kind: mark.Str, Dest: "a", Text: "\x01"})), api.ErrForm},
		{"a byte in a field that is not used", doc(mark.Node{Kind: mark.Para, Text: "\x01"}), api.ErrForm},
		{"the first node before the second", doc(formKind), api.ErrForm},
		{"the first node before the second, in another order", doc(para(para(), mark.Node{Kind: mark.Str, Level: 1})), api.ErrKind},
		{"a node before its Kids", doc(mark.Node{Kind: mark.Heading, Level: 0, Kids: doc(rule())}), api.ErrRange},
		{"Kids before the next node", doc(para(str("\x01")), heading(0)), api.ErrByte},
		{"a node that has no Kids before them", doc(para(mark.Node{Kind: mark.Str, Text: "a", Kids: doc(rule())})), api.ErrForm},
		{"byte of a Link before its Kids", doc(para(link("\x01", "", rule()))), api.ErrByte},
	})
}

// P1.6: all functions that have a document and return an error return that of Check first.
func TestCheckComesFirst(t *testing.T) {
	for _, c := range []struct {
		doc  []mark.Node
		want api.Errno
	}{
		{many(api.MaxNodes+1, heading(0)), api.ErrLarge},
		{deep(13), api.ErrDeep},
		{doc(str("a")), api.ErrKind},
		{doc(heading(0)), api.ErrRange},
		{doc(mark.Node{Kind: mark.Rule, Text: "a"}), api.ErrForm},
		{doc(text("\x01")), api.ErrByte},
	} {
		if s, e := mark.Print(c.doc); e != c.want || s != "" {
			t.Errorf("Print: %q %d, want %d", s, e, c.want)
		}
		if s, e := mark.HTML(c.doc); e != c.want || s != "" {
			t.Errorf("HTML: %q %d, want %d", s, e, c.want)
		}
		if s, e := mark.Render(c.doc, []string{"a", "b"}); e != c.want || s != "" {
			t.Errorf("Render: %q %d, want %d", s, e, c.want)
		}
		if s, e := mark.Plain(c.doc); e != c.want || s != "" {
			t.Errorf("Plain: %q %d, want %d", s, e, c.want)
		}
		if n, e := mark.Words(c.doc); e != c.want || n != 0 {
			t.Errorf("Words: %d %d, want %d", n, e, c.want)
		}
		if l, e := mark.Ids(c.doc); e != c.want || len(l) != 0 {
			t.Errorf("Ids: %v %d, want %d", l, e, c.want)
		}
		if l, e := mark.Contents(c.doc); e != c.want || len(l) != 0 {
			t.Errorf("Contents: %v %d, want %d", l, e, c.want)
		}
		if l, e := mark.Section(c.doc, "a"); e != c.want || len(l) != 0 {
			t.Errorf("Section: %s %d, want %d", show(l), e, c.want)
		}
		if l, more, e := mark.Summary(c.doc, -1); e != c.want || len(l) != 0 || more {
			t.Errorf("Summary: %s %v %d, want %d", show(l), more, e, c.want)
		}
		if l, e := mark.Targets(c.doc); e != c.want || len(l) != 0 {
			t.Errorf("Targets: %v %d, want %d", l, e, c.want)
		}
		if l, e := mark.Relink(c.doc, []string{"a", "\x01"}); e != c.want || len(l) != 0 {
			t.Errorf("Relink: %s %d, want %d", show(l), e, c.want)
		}
		if l, e := mark.Shift(c.doc, 99); e != c.want || len(l) != 0 {
			t.Errorf("Shift: %s %d, want %d", show(l), e, c.want)
		}
		if mark.Printable(c.doc) {
			t.Errorf("printable, though Check is %d", c.want)
		}
	}
}
