package ship_test

import (
	"fmt"
	"math/rand"
	"slices"
	"strings"
	"testing"

	"masthead/api"
	"masthead/ship"
)

// manyRedirects are so many redirects, each to the next one, and the last one to the root.
func manyRedirects(n int) []ship.Redirect {
	l := redirects()
	for i := range n {
		l = append(l, ship.Redirect{From: fmt.Sprintf("/m%d", i), To: fmt.Sprintf("/m%d/", i+1)})
	}
	l[n-1].To = "/"
	return l
}

// movable are outputs to which redirects lead.
var movable = outs("a", "", "b/index.html", "", "b/x.html", "", "index.html", "")

// P10.6: redirects that lead to outputs, and others.
func TestMoved(t *testing.T) {
	for name, c := range map[string]struct{ moved, good, left []ship.Redirect }{
		"none":                      {nil, nil, nil},
		"to outputs":                {redirects("/x", "/a", "/y/", "/b/", "/z", "/", "/b/y", "/b/x.html"), redirects("/b/y", "/b/x.html", "/x", "/a", "/y/", "/b/", "/z", "/"), nil},
		"with and without slash":    {redirects("/x", "/a/", "/y", "/b", "/z", "/b/x.html/"), redirects("/x", "/a", "/y", "/b/", "/z", "/b/x.html"), nil},
		"by further ones":           {redirects("/x", "/y", "/y", "/z/", "/z", "/w", "/w/", "/b"), redirects("/w/", "/b/", "/x", "/b/", "/y", "/b/", "/z", "/b/"), nil},
		"by bytes":                  {redirects("/x/", "/", "/x-y", "/", "/x.y/", "/", "/x0", "/", "/w/z", "/"), redirects("/w/z", "/", "/x-y", "/", "/x.y/", "/", "/x/", "/", "/x0", "/"), nil},
		"from outputs":              {redirects("/a", "/", "/a.b", "/a", "/b", "/", "/b/x.html/", "/a", "/", "/a"), redirects("/a.b", "/a"), redirects("/a", "/", "/b", "/", "/b/x.html/", "/a", "/", "/a")},
		"not further from outputs":  {redirects("/x", "/a", "/a/", "/b"), redirects("/x", "/a"), redirects("/a/", "/b")},
		"rings":                     {redirects("/x", "/x", "/y", "/z", "/z/", "/y/", "/w", "/y", "/v/", "/v", "/u", "/a"), redirects("/u", "/a"), redirects("/x", "/x", "/y", "/z", "/z/", "/y/", "/w", "/y", "/v/", "/v")},
		"nowhere":                   {redirects("/x", "/none", "/y", "/x", "/z", "/b/none", "/w", "/b/x", "/u", "/index.htm"), nil, redirects("/x", "/none", "/y", "/x", "/z", "/b/none", "/w", "/b/x", "/u", "/index.htm")},
		"files like directories":    {redirects("/x/index.html/", "/a", "/y", "/x/index.html/"), redirects("/x/index.html/", "/a", "/y", "/a"), nil},
		"a directory is no address": {redirects("/b/x", "/b/x.html", "/c", "/b/x"), redirects("/b/x", "/b/x.html", "/c", "/b/x.html"), nil},
	} {
		good, left, e := ship.Moved(movable, c.moved)
		expect(t, name, good, e, c.good, api.OK)
		expect(t, name+": left", left, e, c.left, api.OK)
	}
	good, left, e := ship.Moved(nil, redirects("/x", "/", "/", "/x"))
	expect(t, "without outputs", good, e, nil, api.OK)
	expect(t, "without outputs: left", left, e, redirects("/x", "/", "/", "/x"), api.OK)
	good, left, e = ship.Moved(outs("x", ""), redirects("/", "/x"))
	expect(t, "from the root", good, e, redirects("/", "/x"), api.OK)
	expect(t, "from the root: left", left, e, nil, api.OK)
}

// P10.6: as many as there can be, one after the other.
func TestMovedMany(t *testing.T) {
	good, left, e := ship.Moved(movable, manyRedirects(ship.MaxRedirects))
	if e != api.OK || len(good) != ship.MaxRedirects || left != nil || slices.ContainsFunc(good, func(r ship.Redirect) bool { return r.To != "/" }) {
		t.Errorf("%v %v %d", good, left, e)
	}
	ring := manyRedirects(ship.MaxRedirects)
	ring[len(ring)-1].To = "/m0"
	good, left, e = ship.Moved(movable, ring)
	expect(t, "a long ring", good, e, nil, api.OK)
	expect(t, "a long ring", left, e, ring, api.OK)
}

// P10.6: errors.
func TestMovedErrors(t *testing.T) {
	refuses(t, "Moved", func(l []api.Out) (any, api.Errno) {
		good, left, e := ship.Moved(l, redirects("x", "y"))
		return [2][]ship.Redirect{good, left}, e
	}, [2][]ship.Redirect{})
	for name, c := range map[string]struct {
		moved []ship.Redirect
		want  api.Errno
	}{
		"many":                       {manyRedirects(ship.MaxRedirects), api.OK},
		"too many":                   {manyRedirects(ship.MaxRedirects + 1), api.ErrLarge},
		"too many, and no address":   {make([]ship.Redirect, ship.MaxRedirects+1), api.ErrLarge},
		"an empty From":              {redirects("", "/"), api.ErrPath},
		"an empty To":                {redirects("/x", ""), api.ErrPath},
		"From a path":                {redirects("x", "/"), api.ErrPath},
		"To a path":                  {redirects("/x", "a"), api.ErrPath},
		"From what is none":          {redirects("/x//y", "/"), api.ErrPath},
		"To what is none":            {redirects("/x", "/A"), api.ErrPath},
		"To another site":            {redirects("/x", "http://x/"), api.ErrPath},
		"To with a fragment":         {redirects("/x", "/a#b"), api.ErrPath},
		"From an index":              {redirects("/x/index.html", "/"), api.ErrPath},
		"From the first index":       {redirects("/index.html", "/"), api.ErrPath},
		"To an index":                {redirects("/x", "/b/index.html"), api.ErrPath},
		"To the first index":         {redirects("/x", "/index.html"), api.ErrPath},
		"below an index":             {redirects("/index.html/", "/x/index.html/"), api.OK},
		"beside an index":            {redirects("/xindex.html", "/x-index.html"), api.OK},
		"From a long one":            {redirects("/"+longPath, "/"), api.OK},
		"From a longer one":          {redirects("/"+longPath+"/", "/"), api.ErrPath},
		"twice":                      {redirects("/x", "/a", "/y", "/a", "/x", "/b"), api.ErrTwice},
		"twice with the slash":       {redirects("/x", "/a", "/x/", "/a"), api.ErrTwice},
		"twice without the slash":    {redirects("/x/", "/a", "/x", "/a"), api.ErrTwice},
		"twice the root":             {redirects("/", "/x", "/", "/x"), api.ErrTwice},
		"twice an output's":          {redirects("/a", "/x", "/a", "/y"), api.ErrTwice},
		"path before twice":          {redirects("/x", "/a", "/x", "a"), api.ErrPath},
		"twice before the next path": {redirects("/x", "/a", "/x/", "/a", "y", "/"), api.ErrTwice},
		"an earlier path":            {redirects("/x", "a", "/y", "/", "/y", "/"), api.ErrPath},
		"To twice":                   {redirects("/x", "/a", "/y", "/a"), api.OK},
	} {
		good, left, e := ship.Moved(movable, c.moved)
		if e != c.want || e != api.OK && (good != nil || left != nil) {
			t.Errorf("%s: %v %v %d", name, good, left, e)
		}
		for call, e := range map[string]api.Errno{
			"Broken": second(ship.Broken(movable, c.moved)),
			"Serve":  second(ship.Serve(movable, c.moved, "x")),
		} {
			if call == "Broken" && e != c.want || call == "Serve" && c.want != api.OK && e != c.want {
				t.Errorf("%s: %s has %d", name, call, e)
			}
		}
	}
}

// second is the error of a call.
func second[T any](_ T, e api.Errno) api.Errno { return e }

// resolved is Moved of valid arguments, as the chapter has it word by word.
func resolved(l []api.Out, moved []ship.Redirect) (good, left []ship.Redirect) {
	alike := func(a, b string) bool { return strings.TrimSuffix(a, "/") == strings.TrimSuffix(b, "/") }
	output := func(address string) string {
		for _, out := range l {
			if a, _ := ship.Address(out.Path); alike(a, address) {
				return a
			}
		}
		return ""
	}
	for _, r := range moved {
		seen, at, ok := []string{strings.TrimSuffix(r.From, "/")}, r.To, output(r.From) == ""
		for ok && output(at) == "" {
			i := slices.IndexFunc(moved, func(r ship.Redirect) bool { return alike(r.From, at) })
			ok = i >= 0 && !slices.Contains(seen, strings.TrimSuffix(at, "/"))
			seen = append(seen, strings.TrimSuffix(at, "/"))
			if ok {
				at = moved[i].To
			}
		}
		if ok {
			good = append(good, ship.Redirect{From: r.From, To: output(at)})
		} else {
			left = append(left, r)
		}
	}
	slices.SortFunc(good, func(a, b ship.Redirect) int { return strings.Compare(a.From, b.From) })
	return good, left
}

// P10.6: random redirects.
func TestMovedRandom(t *testing.T) {
	r := rand.New(rand.NewSource(5))
	some := words("/ /a /a/ /b /b/ /b/x.html /c /c/ /d /d/ /e /e/ /f /g /h /b/y /b/y/")
	goods, lefts := 0, 0
	for range 40_000 {
		var l []ship.Redirect
		froms := map[string]bool{}
		for range r.Intn(9) {
			from := pick(r, some)
			if bare := strings.TrimSuffix(from, "/"); !froms[bare] {
				froms[bare] = true
				l = append(l, ship.Redirect{From: from, To: pick(r, some)})
			}
		}
		good, left, e := ship.Moved(movable, l)
		wantGood, wantLeft := resolved(movable, l)
		if e != api.OK || !slices.Equal(good, wantGood) || !slices.Equal(left, wantLeft) {
			t.Fatalf("%v\n got %v and %v, error %d\nwant %v and %v", l, good, left, e, wantGood, wantLeft)
		}
		goods, lefts = goods+len(good), lefts+len(left)
	}
	if goods < 20_000 || lefts < 20_000 {
		t.Errorf("%d good ones, %d left", goods, lefts)
	}
}
