package ship_test

import (
	"fmt"
	"math/rand"
	"slices"
	"sort"
	"strings"
	"testing"

	"masthead/api"
	"masthead/ship"
)

var kinds = []string{"", "NoAlt", "Skipped", "TwiceId", "Unclosed", "Unopened", "NoTitle", "EmptyLink"}

// faulty writes the faults of a page.
func faulty(l []ship.Fault) string {
	var b strings.Builder
	for _, f := range l {
		fmt.Fprintf(&b, "%d %s, ", f.At, kinds[f.Kind])
	}
	return strings.TrimSuffix(b.String(), ", ")
}

// P10.5: each kind of fault, in pages with a title.
func TestFaults(t *testing.T) {
	for body, want := range map[string]string{
		"": "",
		"<p>x</p><br><hr/><img alt=\"\" src=\"x\"><input><h1>a</h1><h2>b</h2>": "",

		"<img>": "0 NoAlt",
		"<img/><img alt><img ALT=x><img xalt=\"\">": "0 NoAlt, 26 NoAlt",
		"<imgs></imgs><p alt></p><image></image>":   "",

		"<h1></h1><h2></h2><h3></h3><h1></h1><h2></h2>": "",
		"<h2></h2>": "0 Skipped",
		"<h6></h6><h6></h6><h5></h5><h1></h1><h3></h3>":                "0 Skipped, 36 Skipped",
		"<h1></h1><h3></h3><h4></h4><h2></h2><h4></h4>":                "9 Skipped, 36 Skipped",
		"<d2></d2><h7></h7><h0></h0><h></h><h22></h22><h-2></h-2><hr>": "",
		"<H2></h2><h1><h3></h3></h1>":                                  "0 Skipped, 13 Skipped",

		"<p id=a></p><p id=b></p><p id=a></p><p id=a></p>":                                    "24 TwiceId, 36 TwiceId",
		"<p id></p><p id></p><p id=\"\" id=b></p><p id=b></p>":                                "",
		"<p id=a id=b></p><p id=b></p><p id=A></p>":                                           "",
		"<p id=a></p><br class=x id=\"&#97;\"><br id=\"&lt;\"><br id='&lt;'><br id=\"&lt;\">": "63 TwiceId",

		"<p>":                   "0 Unclosed",
		"<p><b>":                "0 Unclosed, 3 Unclosed",
		"<p><b></p>":            "3 Unclosed",
		"<p><b><i></p></b>":     "3 Unclosed, 6 Unclosed, 13 Unopened",
		"<p><p></p>":            "0 Unclosed",
		"<P><b></B></p>":        "",
		"<p/>":                  "0 Unclosed",
		"<p><b></p><p></b></p>": "3 Unclosed, 13 Unopened",
		"</p>":                  "0 Unopened",
		"<p></p></p>":           "7 Unopened",
		"<p></b></p>":           "3 Unopened",
		"</br></img><br></br>":  "0 Unopened, 5 Unopened, 15 Unopened",
		"<b><br></b>":           "",
		"<script><p></script><style></i></style>": "",
		"<textarea>x": "0 Unclosed",
		"<p":          "0 Unclosed",
		"<p></p":      "",
		"<area><base><br><col><embed><hr><img alt><input><link><meta><source><track><wbr>": "",
		"<param></param><command>": "15 Unclosed",
		"</area></base></br></col></embed></hr></img></input></link></meta></source></track></wbr>": "0 Unopened, 7 Unopened, 14 Unopened, 19 Unopened, 25 Unopened, 33 Unopened, 38 Unopened, 44 Unopened, 52 Unopened, 59 Unopened, 66 Unopened, 75 Unopened, 83 Unopened",

		"<a href=x></a>":                           "0 EmptyLink",
		"<a href></a><a></a><a name=x></a>":        "0 EmptyLink",
		"<a href=x> \t\n<b></b></a>":               "0 EmptyLink",
		"<a href=x>\r</a><a href=x>&#32;</a>":      "",
		"<a href=x><b>y</b></a>":                   "",
		"<a href=x></b>":                           "0 Unclosed, 0 EmptyLink, 10 Unopened",
		"<a href=x></b>y</a>":                      "10 Unopened",
		"<a href=x><img alt=\"\"></a>":             "0 EmptyLink",
		"<a href=x><img alt></a>":                  "0 EmptyLink",
		"<a href=x><img></a>":                      "0 EmptyLink, 10 NoAlt",
		"<a href=x><img alt=y></a>":                "",
		"<a href=x><img alt=\" \"></a>":            "",
		"<a href=x><p alt=y></p></a>":              "0 EmptyLink",
		"<a href=x><!-- y --><?y?></a>y":           "0 EmptyLink",
		"<a href=x><a href=y></a></a>":             "0 EmptyLink, 10 EmptyLink",
		"<a href=x><a href=y>z</a></a>":            "",
		"<a href=x>z<a href=y></a></a>":            "11 EmptyLink",
		"<a href=x><a></a>y</a>":                   "0 EmptyLink",
		"<a href=x>":                               "0 Unclosed, 0 EmptyLink",
		"<a href=x>y":                              "0 Unclosed",
		"<area href=x><link href=x><p href=x></p>": "",
		"<a href=x><script>y</script></a>":         "",
		"<a href=x></A>y":                          "0 EmptyLink",
	} {
		l, e := ship.Faults(outs("x.html", page(body)))
		for i, f := range l {
			l[i].At = f.At - len(page(""))
			if f.Path != "x.html" {
				t.Errorf("%s: %+v", body, f)
			}
		}
		if e != api.OK || faulty(l) != want {
			t.Errorf("%s\n got %s, error %d\nwant %s", body, faulty(l), e, want)
		}
	}
}

// P10.5: titles.
func TestFaultsTitle(t *testing.T) {
	for body, want := range map[string]string{
		"":                                       "0 NoTitle",
		"x":                                      "0 NoTitle",
		"<title>x</title>":                       "",
		"<p></p><title>x</title>":                "",
		"<TITLE a=b>\n x</title>":                "",
		"<title></title>":                        "0 NoTitle",
		"<title> \t\n</title>":                   "0 NoTitle",
		"<title>\r</title>":                      "",
		"<title></title>x":                       "0 NoTitle",
		"<title></title><title>x</title>":        "0 NoTitle",
		"<title>x</title><title></title>":        "",
		"<title>":                                "0 Unclosed, 0 NoTitle",
		"<title":                                 "0 Unclosed, 0 NoTitle",
		"<title>x":                               "0 Unclosed",
		"</title>x":                              "0 Unopened, 0 NoTitle",
		"<!-- <title>x</title> -->":              "0 NoTitle",
		"<script><title>x</title></script>":      "0 NoTitle",
		"<titles>x</titles>":                     "0 NoTitle",
		"<title><b></b></title>":                 "",
		"<img><title>&nbsp;</title><h2></h2>":    "0 NoAlt, 26 Skipped",
		"<img id=a><h2 id=a><a href=x></a></h2>": "0 NoAlt, 0 NoTitle, 10 Skipped, 10 TwiceId, 19 EmptyLink",
	} {
		l, e := ship.Faults(outs("x.html", body))
		if e != api.OK || faulty(l) != want {
			t.Errorf("%s\n got %s, error %d\nwant %s", body, faulty(l), e, want)
		}
	}
}

// P10.5: faults of several pages, and errors.
func TestFaultsOfSites(t *testing.T) {
	l, e := ship.Faults(outs("a", "<p>", "a.html", "<p>", "b.css", "<img>", "b.html", "<title>x</title>", "c/d.html", "<title>x</title><br></p>"))
	expect(t, "a site", l, e, []ship.Fault{{Path: "a.html", At: 0, Kind: ship.Unclosed}, {Path: "a.html", At: 0, Kind: ship.NoTitle}, {Path: "c/d.html", At: 20, Kind: ship.Unopened}}, api.OK)
	refuses(t, "Faults", func(l []api.Out) (any, api.Errno) { return ship.Faults(l) }, []ship.Fault(nil))
	l, e = ship.Faults(outs("a", tooMany, "a.html", "<p>", "b.html", tooMany))
	expect(t, "too many tokens", l, e, nil, api.ErrLarge)
	l, e = ship.Faults(outs("a", tooMany))
	expect(t, "too many tokens of no page", l, e, nil, api.OK)
}

// faultsOf are the faults of a page, as the chapter has them word by word.
func faultsOf(html string) []ship.Fault {
	tokens, _ := ship.Tokens(html)
	var l []ship.Fault
	add := func(at, kind int) { l = append(l, ship.Fault{Path: "x.html", At: at, Kind: kind}) }
	attribute := func(t ship.Token, name string) (string, bool) {
		for _, a := range t.Attrs {
			if a.Name == name {
				return a.Value, true
			}
		}
		return "", false
	}
	shown := func(t ship.Token) bool { return t.Kind == ship.Chars && strings.Trim(t.Text, " \t\n") != "" }
	heading, ids := 0, ""
	closed := map[int]bool{}
	void := " area base br col embed hr img input link meta source track wbr "
	titled := 0
	for i, x := range tokens {
		if x.Kind == ship.Close {
			j := i - 1
			for ; j >= 0; j-- {
				if o := tokens[j]; o.Kind == ship.Open && o.Name == x.Name && !closed[j] && !strings.Contains(void, " "+x.Name+" ") {
					break
				}
			}
			if j < 0 {
				add(x.At, ship.Unopened)
				continue
			}
			for k := j + 1; k < i; k++ {
				if o := tokens[k]; o.Kind == ship.Open && !closed[k] && !strings.Contains(void, " "+o.Name+" ") {
					add(o.At, ship.Unclosed)
				}
				closed[k] = true
			}
			closed[j] = true
		}
		if x.Kind != ship.Open {
			continue
		}
		if _, ok := attribute(x, "alt"); x.Name == "img" && !ok {
			add(x.At, ship.NoAlt)
		}
		if n := strings.Index(" h1h2h3h4h5h6", x.Name); n > 0 && len(x.Name) == 2 {
			if n/2+1 > heading+1 {
				add(x.At, ship.Skipped)
			}
			heading = n/2 + 1
		}
		if id, _ := attribute(x, "id"); id != "" {
			if strings.Contains(ids, "\x01"+id+"\x01") {
				add(x.At, ship.TwiceId)
			}
			ids += "\x01" + id + "\x01"
		}
		if x.Name == "title" && titled == 0 {
			titled = -1
			if i+1 < len(tokens) && shown(tokens[i+1]) {
				titled = 1
			}
		}
		if _, ok := attribute(x, "href"); x.Name == "a" && ok {
			empty := true
			for _, y := range tokens[i+1:] {
				if y.Kind == ship.Close && y.Name == "a" {
					break
				}
				alt, _ := attribute(y, "alt")
				empty = empty && !shown(y) && (y.Kind != ship.Open || y.Name != "img" || alt == "")
			}
			if empty {
				add(x.At, ship.EmptyLink)
			}
		}
	}
	for i, x := range tokens {
		if x.Kind == ship.Open && !closed[i] && !strings.Contains(void, " "+x.Name+" ") {
			add(x.At, ship.Unclosed)
		}
	}
	if titled < 1 {
		add(0, ship.NoTitle)
	}
	sort.Slice(l, func(i, j int) bool { return l[i].At < l[j].At || l[i].At == l[j].At && l[i].Kind < l[j].Kind })
	return l
}

// P10.5: random pages.
func TestFaultsRandom(t *testing.T) {
	r := rand.New(rand.NewSource(4))
	pieces := append(words("<h1> <h2> <h4> </h2> <p> <p> </p> <b> </b> <i> </i> <br> </br> <img> <img~alt> <img~alt=x> <a~href> <a~href=x> <a> </a> </a> <p~id=a> <b~id=b> <br~id=a> x <title> <title>x</title> </title> <!--x-->"), " ")
	seen := map[int]int{}
	for range 60_000 {
		html := strings.ReplaceAll(mix(r, pieces, 14), "~", " ")
		got, e := ship.Faults(outs("x.html", html))
		if want := faultsOf(html); e != api.OK || !slices.Equal(got, want) {
			t.Fatalf("%s\n got %s, error %d\nwant %s", html, faulty(got), e, faulty(want))
		}
		for _, f := range got {
			seen[f.Kind]++
		}
	}
	for kind := ship.NoAlt; kind <= ship.EmptyLink; kind++ {
		if seen[kind] < 5000 {
			t.Errorf("%s: %d times", kinds[kind], seen[kind])
		}
	}
}

// P10.5: as many tokens as there can be, of which no two belong together.
func TestFaultsMany(t *testing.T) {
	const many = ship.MaxTokens / 2
	for html, want := range map[string]int{
		strings.Repeat("<p>", many) + strings.Repeat("</b>", many):      2*many + 1,
		strings.Repeat("<p>", many) + strings.Repeat("</p>", many):      1,
		strings.Repeat("<a href>", many) + strings.Repeat("</a>", many): many + 1,
		strings.Repeat("<p>", 2*many-1) + "<b>":                         2*many + 1,
		strings.Repeat("<p id=a>", many):                                2 * many,
		"<a href>" + strings.Repeat("<p></p>", many-1) + "</a>":         2,
		strings.Repeat("<a href>", 2*many):                              4*many + 1,
	} {
		l, e := ship.Faults(outs("x.html", html))
		expect(t, html[:20], len(l), e, want, api.OK)
	}
}
