package page_test

import (
	"fmt"
	"math/rand"
	"strings"
	"testing"

	"masthead/api"
	"masthead/mark"
	"masthead/page"
)

// P6.6: the table of contents of a body: ids are other ones in all its documents.
func TestHeadings(t *testing.T) {
	for _, c := range []struct {
		body string
		want []string
	}{
		{"", nil},
		{"a\n{< x />}", nil},
		{"# A\n## *B* `c`", []string{"1 a A", "2 b-c B c"}},
		{"# A\n{< x />}\n### A\n{< y >}\n# A\n{< /y >}\n# A 2", []string{"1 a A", "3 a-2 A", "1 a-3 A", "1 a-2-2 A 2"}},
		{"# A 2\n{< x />}\n# A\n{< x />}\n# A", []string{"1 a-2 A 2", "1 a A", "1 a-3 A"}},
		{"# A\n# A\n{< x />}\n# A-2\n# A 2", []string{"1 a A", "1 a-2 A", "1 a-2-2 A-2", "1 a-2-3 A 2"}},
		{"# \n{< x />}\n## !\n# section", []string{"1 section ", "2 section-2 !", "1 section-3 section"}},
		{"> - # A\n{< x />}\n- > ## A", []string{"1 a A", "2 a-2 A"}},
		{"```\n# A\n```\n{< x \"# B\" />}\n# A", []string{"1 a A"}},
		{"# A-3\n{< x />}\n# A\n{< x />}\n# A\n{< x />}\n# A", []string{"1 a-3 A-3", "1 a A", "1 a-2 A", "1 a-4 A"}},
	} {
		l, e := page.Headings(c.body)
		var got []string
		for _, entry := range l {
			got = append(got, fmt.Sprintf("%d %s %s", entry.Level, entry.Id, entry.Text))
		}
		expect(t, c.body, got, e, c.want, api.OK)
	}
}

// P6.6: random bodies have the contents of one document of all texts.
func TestRandomHeadings(t *testing.T) {
	r := rand.New(rand.NewSource(4))
	many := 0
	for range 1000 {
		body := randomBody(r, 60)
		docs, _ := page.Documents(split(t, body))
		var whole []mark.Node
		for _, doc := range docs {
			whole = append(whole, doc...)
		}
		want, e := mark.Contents(whole)
		if e != api.OK {
			t.Fatalf("%q: error %d", body, e)
		}
		l, e := page.Headings(body)
		expect(t, body, l, e, want, api.OK)
		if len(l) > 4 {
			many++
		}
	}
	if many < 100 {
		t.Errorf("only %d bodies with more than 4 headings", many)
	}
}

// P6.6: documents that have more nodes together than one can have.
func TestManyHeadings(t *testing.T) {
	heads := strings.Repeat("# A\n", 1600)
	body := heads + "{< x />}\n" + heads + "{< x />}\n" + heads
	l, e := page.Headings(body)
	if e != api.OK || len(l) != 4800 {
		t.Fatalf("%d entries, error %d", len(l), e)
	}
	for i, entry := range l {
		want := mark.Entry{Level: 1, Id: fmt.Sprint("a-", i+1), Text: "A"}
		if i == 0 {
			want.Id = "a"
		}
		if entry != want {
			t.Fatalf("entry %d is %+v", i, entry)
		}
	}
}

// P6.8: the part of HTML that belongs to a Heading.
func TestSection(t *testing.T) {
	entries := func(l ...any) []mark.Entry {
		var out []mark.Entry
		for i := 0; i < len(l); i += 2 {
			out = append(out, mark.Entry{Level: l[i].(int), Id: l[i+1].(string)})
		}
		return out
	}
	h := func(level int, id string) string { return fmt.Sprintf("<h%d id=\"%s\">", level, id) }
	a2, b2, b3, c1 := h(2, "a"), h(2, "b"), h(3, "b"), h(1, "c")
	for _, c := range []struct {
		name     string
		html     string
		contents []mark.Entry
		id, want string
		ok       bool
	}{
		{"the next one of its level", "x" + a2 + "y" + b2 + "z", entries(2, "a", 2, "b"), "a", a2 + "y", true},
		{"the last one", "x" + a2 + "y" + b2 + "z", entries(2, "a", 2, "b"), "b", b2 + "z", true},
		{"one of a greater level is in it", a2 + "y" + b3 + "z", entries(2, "a", 3, "b"), "a", a2 + "y" + b3 + "z", true},
		{"one of a lesser level is not", a2 + "y" + b3 + "z" + c1, entries(2, "a", 3, "b", 1, "c"), "a", a2 + "y" + b3 + "z", true},
		{"the deeper one ends there, too", a2 + "y" + b3 + "z" + c1, entries(2, "a", 3, "b", 1, "c"), "b", b3 + "z", true},
		{"no such entry", a2, entries(2, "b"), "a", "", false},
		{"no entries", a2, nil, "a", "", false},
		{"no id", a2, entries(2, "a"), "", "", false},
		{"an empty id", h(1, "") + "x", entries(1, ""), "", h(1, "") + "x", true},
		{"its string is not there", "<h2 id='a'>", entries(2, "a"), "a", "", false},
		{"its string has another level", b3, entries(2, "b"), "b", "", false},
		{"its string has more", `<h2 id="a" class="x">`, entries(2, "a"), "a", "", false},
		{"the next one's string is not there", a2 + "y", entries(2, "a", 2, "b"), "a", "", false},
		{"a deeper one's string is not there", a2 + "y" + c1, entries(2, "a", 3, "b", 1, "c"), "a", a2 + "y", true},
		{"the next one's string is before it", b2 + a2 + "y", entries(2, "a", 2, "b"), "a", "", false},
		{"the next one's string is before and after it", b2 + a2 + "y" + b2, entries(2, "a", 2, "b"), "a", a2 + "y", true},
		{"its string is there twice", a2 + "1" + a2 + "2" + b2, entries(2, "a", 2, "b"), "a", a2 + "1" + a2 + "2", true},
		{"the next one's string is there twice", a2 + "1" + b2 + "2" + b2, entries(2, "a", 2, "b"), "a", a2 + "1", true},
		{"an entry before it", a2 + b2 + "x", entries(2, "b", 2, "a"), "a", a2 + b2 + "x", true},
		{"two entries of one id", a2 + "1" + h(3, "a") + "2", entries(3, "a", 2, "a"), "a", h(3, "a") + "2", false},
		{"two equal entries", a2 + "1" + a2 + "2", entries(2, "a", 2, "a"), "a", a2 + "1", true},
		{"two equal entries with one string", a2 + "1", entries(2, "a", 2, "a"), "a", "", false},
		{"a level that is none", h(-7, "a") + "1" + h(0, "b"), entries(-7, "a", 0, "b"), "a", h(-7, "a") + "1" + h(0, "b"), true},
		{"bytes from 128 on", h(1, "é") + "x", entries(1, "é"), "é", h(1, "é") + "x", true},
		{"nothing after it", a2, entries(2, "a"), "a", a2, true},
		{"the next one at once", a2 + b2, entries(2, "a", 2, "b"), "a", a2, true},
	} {
		if !c.ok {
			c.want = ""
		}
		s, ok := page.Section(page.Content{HTML: c.html, Contents: c.contents}, c.id)
		if s != c.want || ok != c.ok {
			t.Errorf("%s: %q, %v; want %q, %v", c.name, s, ok, c.want, c.ok)
		}
	}
}

// P6.8: the sections of pages are what mark has as sections of their documents.
func TestRandomSections(t *testing.T) {
	r := rand.New(rand.NewSource(5))
	found := 0
	for range 500 {
		var l []string
		for range r.Intn(12) {
			l = append(l, []string{"# A", "## A", "### B", "a", "- b", "c *d*"}[r.Intn(6)])
		}
		body := lines(l...)
		c, e := page.Render(page.Host{Address: "/"}, body, 0)
		if e != api.OK {
			t.Fatalf("%q: error %d", body, e)
		}
		doc := document(t, body)
		for i, entry := range c.Contents {
			section, e := mark.Section(doc, entry.Id)
			if e != api.OK {
				t.Fatalf("%q: error %d", body, e)
			}
			heads, _ := mark.Ids(section)
			var ids []string
			for _, later := range c.Contents[i : i+len(heads)] {
				ids = append(ids, later.Id)
			}
			want, e := mark.Render(section, ids)
			s, ok := page.Section(c, entry.Id)
			if s != want || !ok || e != api.OK {
				t.Fatalf("%q %s: %q, %v; want %q", body, entry.Id, s, ok, want)
			}
			found++
		}
	}
	if found < 1000 {
		t.Errorf("only %d sections", found)
	}
}
