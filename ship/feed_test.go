package ship_test

import (
	"fmt"
	"strings"
	"testing"

	"masthead/api"
	"masthead/ship"
)

const xml = "<?xml version=\"1.0\" encoding=\"utf-8\"?>\n"

// entryLine is the line of an entry, of what has been escaped.
func entryLine(title, address, day, summary string) string {
	return "<entry><title>" + title + "</title><link href=\"" + address + "\"/><updated>" + day + "</updated><summary>" + summary + "</summary></entry>\n"
}

// feedHead is what is before entries.
func feedHead(title, base, day string) string {
	return xml + "<feed>\n<title>" + title + "</title>\n<link href=\"" + base + "/\"/>\n<updated>" + day + "</updated>\n"
}

// P10.7: entries, the newest first, and all escaped.
func TestFeed(t *testing.T) {
	l := []ship.Entry{
		{Title: "old", Address: "/o/", Summary: "", Day: 0},
		{Title: "<A> & \"B\" 'C'", Address: "/b", Summary: "x<y", Day: 11016},
		{Title: "", Address: "/a.html", Summary: "é\xff", Day: 11016},
		{Title: "new", Address: "/", Summary: " ", Day: api.MaxDay},
		{Title: "a", Address: "/a/", Summary: "s", Day: 11016},
	}
	all := []string{
		entryLine("new", "h&amp;&quot;/", "2199-12-31", " "),
		entryLine("", "h&amp;&quot;/a.html", "2000-02-29", "é\xff"),
		entryLine("a", "h&amp;&quot;/a/", "2000-02-29", "s"),
		entryLine("&lt;A&gt; &amp; &quot;B&quot; 'C'", "h&amp;&quot;/b", "2000-02-29", "x&lt;y"),
		entryLine("old", "h&amp;&quot;/o/", "1970-01-01", ""),
	}
	for most := range 8 {
		got, e := ship.Feed("<T>", "h&\"", 1, l, most)
		want := feedHead("&lt;T&gt;", "h&amp;&quot;", "1970-01-02") + strings.Join(all[:min(most, 5)], "") + "</feed>\n"
		expect(t, fmt.Sprint("the first ", most), got, e, want, api.OK)
	}
	got, e := ship.Feed("", "", 0, nil, ship.MaxEntries)
	expect(t, "an empty feed", got, e, feedHead("", "", "1970-01-01")+"</feed>\n", api.OK)
	got, e = ship.Feed("T", "https://h/", api.MaxDay, l[:1], 60)
	expect(t, "a base with a slash", got, e, feedHead("T", "https://h/", "2199-12-31")+entryLine("old", "https://h//o/", "1970-01-01", "")+"</feed>\n", api.OK)
}

// manyEntries are so many entries.
func manyEntries(n int) []ship.Entry {
	var l []ship.Entry
	for i := range n {
		l = append(l, ship.Entry{Address: fmt.Sprintf("/e%d", i), Day: i})
	}
	return l
}

// P10.7: errors of feeds, in order.
func TestFeedErrors(t *testing.T) {
	good := ship.Entry{Title: "t", Address: "/a", Summary: "s", Day: 1}
	with := func(change func(x *ship.Entry)) []ship.Entry {
		x := ship.Entry{Title: "u", Address: "/b", Summary: "s", Day: 1}
		change(&x)
		return []ship.Entry{good, x, {Address: "none", Title: "\n", Day: -1}}
	}
	for name, c := range map[string]struct {
		title, base string
		day         int
		l           []ship.Entry
		most        int
		want        api.Errno
	}{
		"all good":                    {"t", "b", 0, []ship.Entry{good}, 60, api.OK},
		"most below 0":                {"\n", "\n", -1, make([]ship.Entry, 61), -1, api.ErrRange},
		"most too great":              {"\n", "\n", -1, make([]ship.Entry, 61), 61, api.ErrRange},
		"many entries":                {"", "", 0, manyEntries(60), 0, api.OK},
		"too many entries":            {"\n", "\n", -1, make([]ship.Entry, 61), 0, api.ErrLarge},
		"a line feed in the title":    {"\n", "", -1, nil, 0, api.ErrByte},
		"a tab in the base":           {"", "\t", -1, nil, 0, api.ErrByte},
		"a byte 31":                   {"a\x1f", "", 0, nil, 0, api.ErrByte},
		"bytes from 32 on":            {" \x7f\xff", " \x7f", 0, nil, 0, api.OK},
		"a day below 0":               {"", "", -1, with(func(x *ship.Entry) {}), 0, api.ErrRange},
		"a late day":                  {"", "", api.MaxDay + 1, with(func(x *ship.Entry) {}), 0, api.ErrRange},
		"a byte of an entry's title":  {"", "", 0, with(func(x *ship.Entry) { x.Title, x.Address, x.Day = "\x00", "b", -1 }), 0, api.ErrByte},
		"a byte of a summary":         {"", "", 0, with(func(x *ship.Entry) { x.Summary, x.Address, x.Day = "\n", "b", -1 }), 0, api.ErrByte},
		"a byte of an address":        {"", "", 0, with(func(x *ship.Entry) { x.Address, x.Day = "/b\n", -1 }), 0, api.ErrByte},
		"no address":                  {"", "", 0, with(func(x *ship.Entry) { x.Address, x.Day = "b", -1 }), 0, api.ErrPath},
		"an empty address":            {"", "", 0, with(func(x *ship.Entry) { x.Address = "" }), 0, api.ErrPath},
		"a day of an entry below 0":   {"", "", 0, with(func(x *ship.Entry) { x.Address, x.Day = "/a", -1 }), 0, api.ErrRange},
		"a late day of an entry":      {"", "", 0, with(func(x *ship.Entry) { x.Day = api.MaxDay + 1 }), 0, api.ErrRange},
		"an address twice":            {"", "", 0, with(func(x *ship.Entry) { x.Address = "/a" }), 0, api.ErrTwice},
		"the last one":                {"", "", 0, with(func(x *ship.Entry) {}), 60, api.ErrByte},
		"an address with the slash":   {"", "", 0, with(func(x *ship.Entry) { x.Address = "/a/" })[:2], 60, api.OK},
		"an address of an index":      {"", "", 0, with(func(x *ship.Entry) { x.Address = "/a/index.html" })[:2], 60, api.OK},
		"an address that is too long": {"", "", 0, with(func(x *ship.Entry) { x.Address = "/" + longPath + "x" }), 0, api.ErrPath},
	} {
		got, e := ship.Feed(c.title, c.base, c.day, c.l, c.most)
		if e != c.want || e != api.OK && got != "" {
			t.Errorf("%s: %q, error %d, not %d", name, got, e, c.want)
		}
	}
}

// P10.7: maps of sites have the pages.
func TestSiteMap(t *testing.T) {
	l := outs("a.css", "", "a.html", "", "b/c/index.html", tooMany, "b/i.htm", "", "b/index.html", "", "index.html", "")
	got, e := ship.SiteMap("h&\"", l)
	want := xml + "<urlset>\n<url><loc>h&amp;&quot;/a.html</loc></url>\n<url><loc>h&amp;&quot;/b/c/</loc></url>\n<url><loc>h&amp;&quot;/b/</loc></url>\n<url><loc>h&amp;&quot;/</loc></url>\n</urlset>\n"
	expect(t, "a map", got, e, want, api.OK)
	for _, l := range [][]api.Out{nil, outs("a", "")} {
		got, e = ship.SiteMap("", l)
		expect(t, "a map without pages", got, e, xml+"<urlset>\n</urlset>\n", api.OK)
	}
	got, e = ship.SiteMap("a\x1f", l)
	expect(t, "a byte", got, e, "", api.ErrByte)
	got, e = ship.SiteMap(" \x7f\xff", nil)
	expect(t, "bytes", got, e, xml+"<urlset>\n</urlset>\n", api.OK)
	refuses(t, "SiteMap", func(l []api.Out) (any, api.Errno) { return ship.SiteMap("\n", l) }, "")
}
