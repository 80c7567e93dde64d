package ship_test

import (
	"testing"

	"masthead/api"
	"masthead/ship"
)

// P10.12: replies to requests.
func TestServe(t *testing.T) {
	l := outs("a", "file", "b.html", "page", "d/e/index.html", "E", "d/index.html", "D", "i/index.html/index.html", "I", "index.html", "root")
	moved := redirects("/m", "/b.html", "/n/", "/m/", "/d/x/", "/d/e", "/lost", "/none", "/a/", "/d", "/d/index.htm", "/a")
	for request, want := range map[string]ship.Reply{
		"/":                        {Code: 200, Path: "index.html", Body: "root"},
		"/index.html":              {Code: 200, Path: "index.html", Body: "root"},
		"/?":                       {Code: 200, Path: "index.html", Body: "root"},
		"/?a#b?c":                  {Code: 200, Path: "index.html", Body: "root"},
		"/#":                       {Code: 200, Path: "index.html", Body: "root"},
		"/a":                       {Code: 200, Path: "a", Body: "file"},
		"/a?%2fx":                  {Code: 200, Path: "a", Body: "file"},
		"/%61":                     {Code: 200, Path: "a", Body: "file"},
		"/%61%2e":                  {Code: 404},
		"/d%2Fe%2F":                {Code: 200, Path: "d/e/index.html", Body: "E"},
		"/d/":                      {Code: 200, Path: "d/index.html", Body: "D"},
		"/d/index.html":            {Code: 200, Path: "d/index.html", Body: "D"},
		"/d":                       {Code: 301, Path: "/d/"},
		"/d?q#f":                   {Code: 301, Path: "/d/"},
		"/%64/%65":                 {Code: 301, Path: "/d/e/"},
		"/i/index.html":            {Code: 301, Path: "/i/index.html/"},
		"/m":                       {Code: 301, Path: "/b.html"},
		"/m/":                      {Code: 301, Path: "/b.html"},
		"/m/index.html":            {Code: 301, Path: "/b.html"},
		"/n?x":                     {Code: 301, Path: "/b.html"},
		"/n/":                      {Code: 301, Path: "/b.html"},
		"/d/x":                     {Code: 301, Path: "/d/e/"},
		"/d/index.htm":             {Code: 301, Path: "/a"},
		"/a/":                      {Code: 404},
		"/lost":                    {Code: 404},
		"/none":                    {Code: 404},
		"/b":                       {Code: 404},
		"/b.html/":                 {Code: 404},
		"/m/x":                     {Code: 404},
		"//":                       {Code: 404},
		"//a":                      {Code: 404},
		"/a//":                     {Code: 404},
		"/./a":                     {Code: 404},
		"/d/..":                    {Code: 404},
		"/d/.":                     {Code: 404},
		"/A":                       {Code: 404},
		"/a ":                      {Code: 404},
		"/%":                       {Code: 404},
		"/%2561":                   {Code: 404},
		"/\x00\xff":                {Code: 404},
		"/%00":                     {Code: 404},
		"/%23":                     {Code: 404},
		"/%3F":                     {Code: 404},
		"/?" + wide(198):           {Code: 200, Path: "index.html", Body: "root"},
		"/" + wide(40) + "/":       {Code: 404},
		"/" + wide(199):            {Code: 404},
		"/" + longPath[:199]:       {Code: 404},
		"/" + longPath[:189] + "/": {Code: 404},
		"/" + longPath[:198] + "%": {Code: 404},
		"/" + longPath[:190] + "/": {Code: 404},
		"/http://x":                {Code: 404},
		"/a:b":                     {Code: 404},
	} {
		got, e := ship.Serve(l, moved, request)
		expect(t, request, got, e, want, api.OK)
	}
	got, e := ship.Serve(outs("x", "X"), redirects("/", "/x"), "/index.html")
	expect(t, "a redirect from the root", got, e, ship.Reply{Code: 301, Path: "/x"}, api.OK)
	got, e = ship.Serve(nil, nil, "/")
	expect(t, "nothing", got, e, ship.Reply{Code: 404}, api.OK)
}

// P10.12: errors of Serve: those of Moved, then of the request.
func TestServeErrors(t *testing.T) {
	refuses(t, "Serve", func(l []api.Out) (any, api.Errno) { return ship.Serve(l, redirects("x", "y"), "x") }, ship.Reply{})
	for name, c := range map[string]struct {
		moved   []ship.Redirect
		request string
		want    api.Errno
	}{
		"no redirect":        {redirects("/x", "y"), "x", api.ErrPath},
		"twice":              {redirects("/x", "/y", "/x", "/y"), "x", api.ErrTwice},
		"too many":           {manyRedirects(61), "x", api.ErrLarge},
		"an empty request":   {nil, "", api.ErrPath},
		"no slash":           {nil, "index.html", api.ErrPath},
		"a decoded slash":    {nil, "%2f", api.ErrPath},
		"a query":            {nil, "?/", api.ErrPath},
		"a long request":     {nil, "/" + wide(199), api.OK},
		"a longer request":   {nil, "/" + wide(200), api.ErrPath},
		"a long query":       {nil, "/?" + wide(199), api.ErrPath},
		"a request of bytes": {nil, "/%61%61" + longPath[:194], api.ErrPath},
	} {
		got, e := ship.Serve(outs("index.html", ""), c.moved, c.request)
		if e != c.want || e != api.OK && got != (ship.Reply{}) {
			t.Errorf("%s: %+v, error %d, not %d", name, got, e, c.want)
		}
	}
}
