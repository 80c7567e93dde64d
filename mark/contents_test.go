package mark_test

import (
	"math"
	"slices"
	"strconv"
	"strings"
	"testing"

	"masthead/api"
	"masthead/mark"
)

// P1.11: Plain.
func TestPlain(t *testing.T) {
	for _, c := range []struct {
		doc  []mark.Node
		want string
	}{
		{nil, ""},
		{doc(text("a")), "a\n"},
		{doc(para()), "\n"},
		{doc(heading(1, str("a"), emph(str("b"), strong(str("c")))), heading(2)), "abc\n\n"},
		{doc(para(str("a"), soft(), str("b"), hard(), code("c*"), link("d", "e", str("f")), image("g", "h", "i"))), "a b c*fi\n"},
		{doc(fence("go", "a\nb\n"), fence("", "")), "a\nb\n\n\n"},
		{doc(fence("", "a")), "a\n"},
		{doc(rule(), rule()), "\n\n"},
		{doc(quote(text("a"), rule()), quote()), "a\n\n"},
		{doc(list(3, item(text("a"), text("b")), item()), list(-1)), "a\nb\n"},
		{doc(table(row(cell(str("a")), cell(), cell(str("b"), str("c"))), row(cell()), row())), "a\t\tbc\n\n\n"},
		{doc(text("<&\t>")), "<&\t>\n"},
	} {
		if s, e := mark.Plain(c.doc); e != api.OK || s != c.want {
			t.Errorf("Plain of %s: %q, error %d, want %q", show(c.doc), s, e, c.want)
		}
	}
	long := strings.Repeat("a", 3*api.MaxOut)
	if s, e := mark.Plain(doc(text(long))); e != api.OK || s != long+"\n" {
		t.Errorf("a long document: %d bytes, error %d", len(s), e)
	}
}

// P1.11: Words.
func TestWords(t *testing.T) {
	for _, c := range []struct {
		doc  []mark.Node
		want int
	}{
		{nil, 0},
		{doc(para(), rule(), quote()), 0},
		{doc(text("a")), 1},
		{doc(text("  a \t bc  d ")), 3},
		{doc(para(str("a"), emph(str("b")), code("c"))), 1},
		{doc(para(str("a"), soft(), str("b"), hard(), str("c"))), 3},
		{doc(text("a-b_c.d,e")), 1},
		{doc(text("\xc2\xa0 \x7f \xff")), 3},
		{doc(fence("x", "a b\n\nc\n")), 3},
		{doc(table(row(cell(str("a")), cell(str("b"))), row(cell(str("c"))))), 3},
		{doc(text("a"), text("b"), heading(1, str("c"))), 3},
		{doc(para(image("a", "b c", "d e"), link("f", "g", str("h")))), 2},
		{doc(list(7, item(text("a b")), item(text("c")))), 3},
	} {
		if n, e := mark.Words(c.doc); e != api.OK || n != c.want {
			t.Errorf("Words of %s: %d, error %d, want %d", show(c.doc), n, e, c.want)
		}
	}
}

// P1.12.
func TestSlug(t *testing.T) {
	for s, want := range map[string]string{
		"":                 "",
		"a":                "a",
		"AZaz09":           "azaz09",
		"Hello, World!":    "hello-world",
		"--a--b--":         "a-b",
		"a_b.c":            "a-b-c",
		"-":                "",
		" !? ":             "",
		"\x00a\x7fb\n":     "a-b",
		"\xc3\x96\xff\x80": "\xc3\x96\xff\x80",
		" \xc3\xb6 1":      "\xc3\xb6-1",
		"@A[Z`a{z/0:9":     "a-z-a-z-0-9",
		"1. x":             "1-x",
	} {
		if got := mark.Slug(s); got != want {
			t.Errorf("Slug(%q) = %q, want %q", s, got, want)
		}
	}
	for b := range 256 {
		s := string([]byte{'x', byte(b), 'y'})
		want := "x-y"
		switch {
		case b >= 'A' && b <= 'Z':
			want = "x" + strings.ToLower(string(rune(b))) + "y"
		case b >= 'a' && b <= 'z', b >= '0' && b <= '9', b >= 128:
			want = s
		}
		if got := mark.Slug(s); got != want {
			t.Errorf("Slug(%q) = %q, want %q", s, got, want)
		}
	}
}

// headings are Headings with some strings.
func headings(l ...string) []mark.Node {
	var d []mark.Node
	for _, s := range l {
		d = append(d, heading(2, str(s)))
	}
	return d
}

// P1.13.
func TestIds(t *testing.T) {
	for _, c := range []struct {
		doc  []mark.Node
		want []string
	}{
		{nil, nil},
		{doc(text("a")), nil},
		{headings("A", "b c"), []string{"a", "b-c"}},
		{headings("A", "A", "A 2"), []string{"a", "a-2", "a-2-2"}},
		{headings("A 2", "A", "A"), []string{"a-2", "a", "a-3"}},
		{headings("a", "a", "a", "a"), []string{"a", "a-2", "a-3", "a-4"}},
		{headings("a", "a-3", "a", "a", "a"), []string{"a", "a-3", "a-2", "a-4", "a-5"}},
		{headings("a-2", "a-2", "a", "a", "a-2-2"), []string{"a-2", "a-2-2", "a", "a-3", "a-2-2-2"}},
		{headings("!", "?", "section", "Section 2"), []string{"section", "section-2", "section-3", "section-2-2"}},
		{doc(heading(1), heading(1, emph(str("*")), code("`"))), []string{"section", "section-2"}},
		{doc(heading(1, str("a"), soft(), code("b"), hard(), image("x", "y", "c"), link("z", "", emph(str("d"))))), []string{"a-b-cd"}},
		{doc(heading(1, str("a")), quote(heading(2, str("a")), list(1, item(heading(3, str("a"))))), heading(1, str("a"))), []string{"a", "a-2", "a-3", "a-4"}},
		{headings("\xc3\xb6", "\xc3\xb6"), []string{"\xc3\xb6", "\xc3\xb6-2"}},
	} {
		if ids, e := mark.Ids(c.doc); e != api.OK || !slices.Equal(ids, c.want) {
			t.Errorf("Ids of %s: %q, error %d, want %q", show(c.doc), ids, e, c.want)
		}
	}
	ids, e := mark.Ids(many(api.MaxNodes, heading(1)))
	if e != api.OK || len(ids) != api.MaxNodes || ids[0] != "section" {
		t.Fatalf("%d ids, error %d", len(ids), e)
	}
	for i := 1; i < len(ids); i++ {
		if ids[i] != "section-"+strconv.Itoa(i+1) {
			t.Fatalf("id %d is %q", i, ids[i])
		}
	}
}

// P1.14: Contents.
func TestContents(t *testing.T) {
	l := doc(heading(3, str("A "), emph(str("b"))), quote(heading(1, str("A b"), soft(), code("c"))), text("x"), list(-1, item(heading(6))), heading(3, image("x", "", "a  b")))
	want := []mark.Entry{{Level: 3, Id: "a-b", Text: "A b"}, {Level: 1, Id: "a-b-c", Text: "A b c"}, {Level: 6, Id: "section"}, {Level: 3, Id: "a-b-2", Text: "a  b"}}
	if c, e := mark.Contents(l); e != api.OK || !slices.Equal(c, want) {
		t.Errorf("%+v, error %d", c, e)
	}
	for _, l := range [][]mark.Node{nil, doc(text("a"))} {
		if c, e := mark.Contents(l); e != api.OK || len(c) != 0 {
			t.Errorf("%+v, error %d", c, e)
		}
	}
}

// P1.14: Nested.
func TestNested(t *testing.T) {
	for _, c := range []struct {
		levels []int
		want   []int
		e      api.Errno
	}{
		{nil, nil, api.OK},
		{[]int{1}, []int{-1}, api.OK},
		{[]int{6, 5, 4, 3, 2, 1}, []int{-1, -1, -1, -1, -1, -1}, api.OK},
		{[]int{1, 1, 1}, []int{-1, -1, -1}, api.OK},
		{[]int{1, 2, 3, 4, 5, 6}, []int{-1, 0, 1, 2, 3, 4}, api.OK},
		{[]int{1, 3, 2, 3, 1, 6}, []int{-1, 0, 0, 2, -1, 4}, api.OK},
		{[]int{2, 6, 4, 5, 3, 4, 1, 2}, []int{-1, 0, 0, 2, 0, 4, -1, 6}, api.OK},
		{[]int{1, 2, 2, 1, 2}, []int{-1, 0, 0, -1, 3}, api.OK},
		{[]int{0}, nil, api.ErrRange},
		{[]int{7}, nil, api.ErrRange},
		{[]int{1, 2, -1}, nil, api.ErrRange},
		{[]int{1, math.MaxInt}, nil, api.ErrRange},
		{[]int{math.MinInt, 1}, nil, api.ErrRange},
	} {
		var l []mark.Entry
		for _, level := range c.levels {
			l = append(l, mark.Entry{Level: level, Id: "a", Text: "b"})
		}
		if got, e := mark.Nested(l); e != c.e || !slices.Equal(got, c.want) {
			t.Errorf("Nested of %v: %v, error %d", c.levels, got, e)
		}
	}
	l := make([]mark.Entry, 300_000)
	for i := range l {
		l[i].Level = 1 + i%6
	}
	if got, e := mark.Nested(l); e != api.OK || len(got) != len(l) || got[len(l)-1] != len(l)-2 {
		t.Errorf("a long list: %d numbers, error %d", len(got), e)
	}
}

// P1.15.
func TestSection(t *testing.T) {
	l := doc(text("x"), heading(2, str("A")), text("a"), heading(3, str("B")), quote(heading(1, str("C"))), heading(2, str("A")), text("d"), heading(1, str("E")), heading(6, str("F")))
	for id, want := range map[string][]mark.Node{"a": l[1:5], "b": l[3:5], "a-2": l[5:7], "e": l[7:9], "f": l[8:9]} {
		if s, e := mark.Section(l, id); e != api.OK || !mark.Same(s, want) {
			t.Errorf("%q: %s, error %d", id, show(s), e)
		}
	}
	for _, id := range []string{"c", "", "A", "a-3", "x", "section"} {
		if s, e := mark.Section(l, id); e != api.ErrNone || len(s) != 0 {
			t.Errorf("%q: %s, error %d", id, show(s), e)
		}
	}
	if s, e := mark.Section(nil, "a"); e != api.ErrNone || len(s) != 0 {
		t.Errorf("%s, error %d", show(s), e)
	}
	close := headings("A", "B", "C")
	if s, e := mark.Section(close, "b"); e != api.OK || !mark.Same(s, close[1:2]) {
		t.Errorf("a Heading alone: %s, error %d", show(s), e)
	}
	nested := doc(quote(heading(1, str("A"))), heading(1, str("A")))
	if s, e := mark.Section(nested, "a-2"); e != api.OK || !mark.Same(s, nested[1:]) {
		t.Errorf("ids of Headings below the top count: %s, error %d", show(s), e)
	}
	if _, e := mark.Section(nested, "a"); e != api.ErrNone {
		t.Errorf("a Heading below the top: error %d", e)
	}
}

// P1.16.
func TestSummary(t *testing.T) {
	l := doc(text("a b"), rule(), heading(1, str("c")), list(1, item(text("d e f"))), para(str("g"), soft(), str("h")))
	for _, c := range []struct{ words, blocks int }{{0, 0}, {1, 1}, {2, 1}, {3, 3}, {4, 4}, {6, 4}, {7, 5}, {8, 5}, {9, 5}, {api.MaxBody, 5}} {
		s, more, e := mark.Summary(l, c.words)
		if e != api.OK || !mark.Same(s, l[:c.blocks]) || more != (c.blocks < 5) {
			t.Errorf("%d words: %s, %v, error %d", c.words, show(s), more, e)
		}
	}
	for _, words := range []int{-1, api.MaxBody + 1, math.MinInt, math.MaxInt} {
		if s, more, e := mark.Summary(l, words); e != api.ErrRange || len(s) != 0 || more {
			t.Errorf("%d words: %s, %v, error %d", words, show(s), more, e)
		}
	}
	for _, words := range []int{0, 1, api.MaxBody} {
		if s, more, e := mark.Summary(nil, words); e != api.OK || len(s) != 0 || more {
			t.Errorf("%d words of nothing: %s, %v, error %d", words, show(s), more, e)
		}
	}
	blank := doc(rule(), para(), text("a"))
	if s, more, e := mark.Summary(blank, 1); e != api.OK || !mark.Same(s, blank) || more {
		t.Errorf("blocks without words: %s, %v, error %d", show(s), more, e)
	}
}
