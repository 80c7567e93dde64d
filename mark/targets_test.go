package mark_test

import (
	"math"
	"slices"
	"testing"

	"masthead/api"
	"masthead/mark"
)

// linked is a document with Links and Images a to g at several depths.
func linked() []mark.Node {
	return doc(
		heading(1, link("a", "A", str("x"), image("b", "B", "y"), emph(image("c", "", ""))), image("d", "", "")),
		quote(list(1, item(para(strong(str("z"), link("e", "", str("w"))))))),
		table(row(cell(), cell(image("f", "", "")))),
		fence("info", "text"),
		para(link("g", "G", code("v"))))
}

// P1.17: Targets.
func TestTargets(t *testing.T) {
	if l, e := mark.Targets(linked()); e != api.OK || !slices.Equal(l, []string{"a", "b", "c", "d", "e", "f", "g"}) {
		t.Errorf("%q, error %d", l, e)
	}
	if l, e := mark.Targets(doc(para(link("", "", str("a")), image("javascript:x", "", ""), link("", "")))); e != api.OK || !slices.Equal(l, []string{"", "javascript:x", ""}) {
		t.Errorf("%q, error %d", l, e)
	}
	for _, d := range [][]mark.Node{nil, doc(text("a"), fence("b", "c"))} {
		if l, e := mark.Targets(d); e != api.OK || len(l) != 0 {
			t.Errorf("%q, error %d", l, e)
		}
	}
}

// P1.17: Relink.
func TestRelink(t *testing.T) {
	targets := []string{"1", "2 (", "", "4", "\x7f\xff", "6", "7"}
	l, e := mark.Relink(linked(), targets)
	if e != api.OK {
		t.Fatalf("error %d", e)
	}
	if got, e := mark.Targets(l); e != api.OK || !slices.Equal(got, targets) {
		t.Errorf("the targets are %q, error %d", got, e)
	}
	if back, e := mark.Relink(l, []string{"a", "b", "c", "d", "e", "f", "g"}); e != api.OK || !mark.Same(back, linked()) {
		t.Errorf("with its own targets again: %s, error %d", show(back), e)
	}
	if l, e := mark.Relink(nil, nil); e != api.OK || len(l) != 0 {
		t.Errorf("nothing: %s, error %d", show(l), e)
	}
	for _, c := range []struct {
		targets []string
		want    api.Errno
	}{
		{nil, api.ErrForm},
		{targets[1:], api.ErrForm},
		{append(slices.Clone(targets), "8"), api.ErrForm},
		{[]string{"\x01"}, api.ErrForm},
		{[]string{"1", "2", "3", "4", "5", "6", "\x1f"}, api.ErrByte},
		{[]string{"a\tb", "2", "3", "4", "5", "6", "7"}, api.ErrByte},
		{[]string{"1", "2", "\n", "4", "5", "6", "7"}, api.ErrByte},
	} {
		if l, e := mark.Relink(linked(), c.targets); e != c.want || len(l) != 0 {
			t.Errorf("%q: %s, error %d", c.targets, show(l), e)
		}
	}
}

// P1.17: Shift.
func TestShift(t *testing.T) {
	at := func(levels ...int) []mark.Node {
		h := func(i int) mark.Node { return heading(levels[i], str("a")) }
		return doc(h(0), list(-1, item(h(1)), item()), quote(quote(h(2))), list(3), h(3))
	}
	from := at(1, 3, 5, 6)
	for by, want := range map[int][]mark.Node{
		-5: at(1, 1, 1, 1), -3: at(1, 1, 2, 3), -1: at(1, 2, 4, 5), 0: from, 1: at(2, 4, 6, 6), 2: at(3, 5, 6, 6), 5: at(6, 6, 6, 6),
	} {
		if l, e := mark.Shift(from, by); e != api.OK || !mark.Same(l, want) {
			t.Errorf("by %d: %s, error %d", by, show(l), e)
		}
	}
	for _, by := range []int{-6, 6, math.MinInt, math.MaxInt} {
		if l, e := mark.Shift(from, by); e != api.ErrRange || len(l) != 0 {
			t.Errorf("by %d: %s, error %d", by, show(l), e)
		}
	}
	if l, e := mark.Shift(nil, 1); e != api.OK || len(l) != 0 {
		t.Errorf("nothing: %s, error %d", show(l), e)
	}
}

// P1.17: Same.
func TestSame(t *testing.T) {
	base := func() mark.Node {
		return mark.Node{Kind: 99, Level: 1, Text: "a", Dest: "b", Title: "c", Kids: doc(text("d"), rule())}
	}
	others := []mark.Node{{}}
	for _, change := range []func(n *mark.Node){
		func(n *mark.Node) { n.Kind = 98 },
		func(n *mark.Node) { n.Level = 2 },
		func(n *mark.Node) { n.Text = "b" },
		func(n *mark.Node) { n.Dest = "a" },
		func(n *mark.Node) { n.Title = "" },
		func(n *mark.Node) { n.Kids = nil },
		func(n *mark.Node) { n.Kids = n.Kids[:1] },
		func(n *mark.Node) { n.Kids = doc(rule(), text("d")) },
		func(n *mark.Node) { n.Kids[1].Kids = doc(mark.Node{}) },
		func(n *mark.Node) { n.Kids[0].Kids[0].Text = "x" },
	} {
		n := base()
		change(&n)
		others = append(others, n)
	}
	if !mark.Same(doc(base()), doc(base())) || !mark.Same(doc(rule(), base()), doc(rule(), base())) {
		t.Error("equal documents are not the same")
	}
	for _, n := range others {
		if mark.Same(doc(base()), doc(n)) || mark.Same(doc(n, rule()), doc(base(), rule())) || mark.Same(doc(quote(n)), doc(quote(base()))) {
			t.Errorf("the same as another one: %s", show(doc(n)))
		}
	}
	empty := rule()
	empty.Kids = []mark.Node{}
	if !mark.Same(nil, []mark.Node{}) || !mark.Same([]mark.Node{}, nil) || !mark.Same(doc(empty), doc(rule())) || !mark.Same(doc(rule()), doc(empty)) {
		t.Error("empty and nil lists are not equal")
	}
	if mark.Same(doc(rule()), nil) || mark.Same(nil, doc(mark.Node{})) || mark.Same(doc(rule()), doc(rule(), rule())) {
		t.Error("documents of different lengths are the same")
	}
	if d := deep(100_000, str("a")); !mark.Same(d, deep(100_000, str("a"))) || mark.Same(d, deep(100_000, str("b"))) || mark.Same(d, deep(99_999, str("a"))) {
		t.Error("very deep documents")
	}
}
