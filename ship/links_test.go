package ship_test

import (
	"testing"

	"masthead/api"
	"masthead/ship"
)

// P10.3: the links of pages, in order.
func TestLinks(t *testing.T) {
	l := outs(
		".html", "<a href=1>",
		"a.css", "<a href=\"css\">",
		"a.html", "x<a href=\"b?x&amp;y#z\" src='c' SRC=\"\" href=\"d\"><p id=\"e\" class=\"href\">f</p><img alt=\"\" src=\"g\"></a href=\"h\"><!-- <a href=\"i\"> --><a xhref=\"j\" data-src=\"k\" href>",
		"b.htm", "<a href=\"htm\">",
		"b/index.html", "<script src=\"s\">\"<a href=l>\"</script><link href=m",
		"c.html/d", "<a href=\"d\">",
		"html", "<a href=\"html\">",
	)
	got, e := ship.Links(l)
	expect(t, "links", got, e, []ship.Link{
		{Path: ".html", At: 0, Target: "1"},
		{Path: "a.html", At: 1, Target: "b?x&y#z"}, {Path: "a.html", At: 1, Target: "'c'"}, {Path: "a.html", At: 1, Target: ""}, {Path: "a.html", At: 1, Target: "d"},
		{Path: "a.html", At: 75, Target: "g"}, {Path: "a.html", At: 129, Target: ""},
		{Path: "b/index.html", At: 0, Target: "s"}, {Path: "b/index.html", At: 37, Target: "m"},
	}, api.OK)
	for _, link := range got {
		for _, out := range l {
			if out.Path == link.Path && out.Body[link.At] != '<' {
				t.Errorf("%+v begins with no tag", link)
			}
		}
	}
	got, e = ship.Links(nil)
	expect(t, "no links", got, e, nil, api.OK)
}

// P10.3: the error of Links is that of the outputs, then that of the first page that has one.
func TestLinksErrors(t *testing.T) {
	call := func(l []api.Out) (any, api.Errno) { return ship.Links(l) }
	refuses(t, "Links", call, []ship.Link(nil))
	got, e := ship.Links(outs("a", tooMany, "b.html", "<a href=x>"))
	expect(t, "too many tokens of no page", got, e, []ship.Link{{Path: "b.html", Target: "x"}}, api.OK)
	got, e = ship.Links(outs("a", "", "b.html", "<a href=x>", "c.html", tooMany))
	expect(t, "too many tokens", got, e, nil, api.ErrLarge)
	got, e = ship.Links(outs("b.html", tooMany, "a", ""))
	expect(t, "too many tokens, and disorder", got, e, nil, api.ErrOrder)
}

// P10.3: ids.
func TestIds(t *testing.T) {
	for html, want := range map[string]string{
		"":                                       "",
		"x":                                      "",
		"<p id=\"a\">":                           "a",
		"<p ID=a><b id='b'>":                     "a 'b'",
		"<p id=\"b\"><p id=\"a\"><p id=\"b\">":   "b a b",
		"<p id=\"a\" id=\"b\">":                  "a",
		"<p id=\"\" id=\"b\"><p id><p id=\"c\">": "c",
		"<p class=\"id\" xid=\"a\">":             "",
		"</p id=\"a\"><!-- <p id=\"b\"> -->":     "",
		"<title id=\"a\"><p id=\"b\"></title>":   "a",
		"<p id=\"&lt;&amp;amp;\">":               "<&amp;",
		"<p id=\"a":                              "a",
	} {
		got, e := ship.Ids(html)
		expect(t, html, got, e, words(want), api.OK)
	}
	for _, html := range []string{tooMany, wide(api.MaxOut + 1)} {
		got, e := ship.Ids("<p id=a>" + html)
		expect(t, "large", got, e, nil, api.ErrLarge)
	}
}
