package page_test

import (
	"testing"

	"masthead/api"
	"masthead/mark"
	"masthead/page"
)

// P6.5: the dot of a shortcode.
func TestDot(t *testing.T) {
	named := page.Part{Name: "a", Args: []page.Arg{{Value: "x"}, {Name: "l", Value: "1"}, {Name: "k", Value: ""}, {Value: "<"}, {Name: "l", Value: "2"}, {Name: "K", Value: "3"}, {Name: "k", Value: "4"}}}
	both := named
	both.Ends = true
	both.Inner = parts(text("b\n"))
	for _, c := range []struct {
		p                       page.Part
		address, inner          string
		args, within, named, at api.Value
	}{
		{page.Part{}, "", "", listOf(), api.Value{}, table(), fact("page:")},
		{whole("a"), "/", "x", listOf(), api.Value{}, table(), fact("page:/")},
		{around("a"), "/b/", "", listOf(), safe(""), table(), fact("page:/b/")},
		{around("a"), "b", "<p>&amp;", listOf(), safe("<p>&amp;"), table(), fact("page:b")},
		{whole("a", "y", "x", "y"), "/", "", listOf(str("y"), str("x"), str("y")), api.Value{}, table(), fact("page:/")},
		{named, "/", "c", listOf(str("x"), str("<")), api.Value{}, table("K", str("3"), "k", str(""), "l", str("1")), fact("page:/")},
		{both, "/", "c", listOf(str("x"), str("<")), safe("c"), table("K", str("3"), "k", str(""), "l", str("1")), fact("page:/")},
	} {
		want := table("args", c.args, "inner", c.within, "named", c.named, "page", c.at)
		expect(t, show(c.p), page.Dot(c.p, c.address, c.inner), api.OK, want, api.OK)
	}
}

// P6.5: the dots of hooks.
func TestFields(t *testing.T) {
	kids := []mark.Node{{Kind: mark.Str, Text: "a&"}, {Kind: mark.Hard}, {Kind: mark.Emph, Kids: []mark.Node{{Kind: mark.Code, Text: "<b"}}}, {Kind: mark.Image, Dest: "d", Title: "e", Text: "f"}}
	at := fact("page:/p/")
	for _, c := range []struct {
		n    mark.Node
		want api.Value
	}{
		{mark.Node{Kind: mark.Link, Dest: "d&", Title: "t\"", Kids: kids}, table("dest", str("d&"), "inner", safe("<i>"), "page", at, "title", str("t\""))},
		{mark.Node{Kind: mark.Link, Dest: "d"}, table("dest", str("d"), "inner", safe("<i>"), "page", at, "title", str(""))},
		{mark.Node{Kind: mark.Image, Dest: "d", Title: "t", Text: "<a"}, table("dest", str("d"), "page", at, "text", str("<a"), "title", str("t"))},
		{mark.Node{Kind: mark.Image, Dest: "d"}, table("dest", str("d"), "page", at, "text", str(""), "title", str(""))},
		{mark.Node{Kind: mark.Heading, Level: 3, Kids: kids}, table("id", str("n\""), "inner", safe("<i>"), "level", num(3), "page", at, "text", str("a& <bf"))},
		{mark.Node{Kind: mark.Heading, Level: 1}, table("id", str("n\""), "inner", safe("<i>"), "level", num(1), "page", at, "text", str(""))},
		{mark.Node{Kind: mark.Fence, Text: "a\n\n", Dest: "go x"}, table("info", str("go x"), "page", at, "text", str("a\n\n"))},
		{mark.Node{Kind: mark.Fence}, table("info", str(""), "page", at, "text", str(""))},
		{mark.Node{Kind: mark.Para, Kids: kids}, table("page", at)},
		{mark.Node{Kind: mark.Rule}, table("page", at)},
		{mark.Node{Kind: mark.Code, Text: "a"}, table("page", at)},
		{mark.Node{Kind: mark.Item}, table("page", at)},
		{mark.Node{}, table("page", at)},
		{mark.Node{Kind: 99, Text: "a"}, table("page", at)},
	} {
		expect(t, show(c.n), page.Fields(c.n, "/p/", "n\"", "<i>"), api.OK, c.want, api.OK)
	}
}
