package ship_test

import (
	"math/rand"
	"slices"
	"strings"
	"testing"

	"masthead/api"
	"masthead/ship"
	"masthead/tree"
)

var longPath = strings.Repeat(wide(39)+"/", 5)[:api.MaxPath-1] + "x" // as long as it can be

// P10.2: what is wrong with outputs.
func TestCheckOuts(t *testing.T) {
	large, larger := wide(api.MaxOut), wide(api.MaxOut+1)
	for name, c := range map[string]struct {
		l    []api.Out
		want api.Errno
	}{
		"none":                         {nil, api.OK},
		"some":                         {outs("a", "", "a-b", "x", "a.b", "", "a0/b", "", "b/c", "", "b/d/e", large), api.OK},
		"an empty path":                {outs("", ""), api.ErrPath},
		"a slash at the beginning":     {outs("/a", ""), api.ErrPath},
		"a slash at the end":           {outs("a/", ""), api.ErrPath},
		"an empty part":                {outs("a//b", ""), api.ErrPath},
		"points":                       {outs("a/..", ""), api.ErrPath},
		"a point":                      {outs("./a", ""), api.ErrPath},
		"three points":                 {outs("...", ""), api.OK},
		"a capital letter":             {outs("A", ""), api.ErrPath},
		"a blank":                      {outs("a b", ""), api.ErrPath},
		"a long part":                  {outs(wide(api.MaxPart), ""), api.OK},
		"a longer part":                {outs(wide(api.MaxPart+1), ""), api.ErrPath},
		"a long path":                  {outs(longPath, ""), api.OK},
		"a longer path":                {outs(longPath+"x", ""), api.ErrPath},
		"a path twice":                 {outs("a", "", "a", ""), api.ErrOrder},
		"disorder":                     {outs("b", "", "a", ""), api.ErrOrder},
		"order by bytes":               {outs("a/b", "", "a0", ""), api.OK},
		"no order by parts":            {outs("a/b", "", "a-b", ""), api.ErrOrder},
		"a directory":                  {outs("a", "", "a/b", ""), api.ErrTwice},
		"a directory further on":       {outs("a", "", "a-b", "", "a.b", "", "a/b/c", ""), api.ErrTwice},
		"a directory within":           {outs("a/b", "", "a/b/c", ""), api.ErrTwice},
		"a beginning without slash":    {outs("a", "", "ab", "", "ab0/c", ""), api.OK},
		"a directory of what is none":  {outs("a", "", "a//", ""), api.ErrTwice},
		"a directory of a long one":    {outs(longPath, "", longPath+"/x", ""), api.ErrTwice},
		"a directory after its file":   {outs("a/b", "", "a", ""), api.ErrOrder},
		"disorder before a directory":  {outs("b", "", "a", "", "a/x", ""), api.ErrOrder},
		"a directory before disorder":  {outs("b", "", "a", "", "b/a", ""), api.ErrTwice},
		"a large body":                 {outs("a", large), api.OK},
		"a larger body":                {outs("a", larger), api.ErrLarge},
		"path before body":             {outs("A", larger), api.ErrPath},
		"order before body":            {outs("b", "", "a", larger), api.ErrOrder},
		"directory before body":        {outs("a", larger, "a/b", ""), api.ErrTwice},
		"body before the next path":    {outs("a", larger, "A", ""), api.ErrLarge},
		"path before order":            {outs("b", "", "A", ""), api.ErrPath},
		"a directory before next path": {outs("a", "", "a/b/", ""), api.ErrTwice},
		"many":                         {manyOuts(4*api.MaxFiles, ""), api.OK},
		"too many":                     {manyOuts(4*api.MaxFiles+1, ""), api.ErrLarge},
		"too many, and no path":        {make([]api.Out, 4*api.MaxFiles+1), api.ErrLarge},
	} {
		same(t, name, ship.CheckOuts(c.l), c.want)
	}
}

// checkedOuts is CheckOuts, as the chapter has it word by word.
func checkedOuts(l []api.Out) api.Errno {
	if len(l) > 480 {
		return api.ErrLarge
	}
	for i, out := range l {
		if tree.CheckPath(out.Path) != api.OK {
			return api.ErrPath
		}
		if i > 0 && l[i-1].Path >= out.Path {
			return api.ErrOrder
		}
		if slices.ContainsFunc(l[i+1:], func(later api.Out) bool { return strings.HasPrefix(later.Path, out.Path+"/") }) {
			return api.ErrTwice
		}
		if len(out.Body) > 200_000 {
			return api.ErrLarge
		}
	}
	return api.OK
}

var somePaths = words("a a-b a.b a/b a/b/c a/b0 a/c aa b b/c b/c/d c c/d/e x/y/z z /a a/ a//b a/../b A é")

// P10.2: random outputs.
func TestCheckOutsRandom(t *testing.T) {
	r := rand.New(rand.NewSource(1))
	seen := map[api.Errno]int{}
	larger := wide(api.MaxOut + 1)
	for range 60_000 {
		var l []api.Out
		for range r.Intn(6) {
			path := somePaths[r.Intn(len(somePaths)-r.Intn(3)/2*7)]
			l = append(l, api.Out{Path: path, Body: pick(r, []string{"", "", "", "", "", "", "", larger})})
		}
		if r.Intn(5) > 0 {
			slices.SortFunc(l, func(a, b api.Out) int { return strings.Compare(a.Path, b.Path) })
		}
		got, want := ship.CheckOuts(l), checkedOuts(l)
		if got != want {
			t.Fatalf("%.200v: %d, not %d", l, got, want)
		}
		seen[got]++
	}
	for _, e := range []api.Errno{api.OK, api.ErrPath, api.ErrOrder, api.ErrTwice, api.ErrLarge} {
		if seen[e] < 1000 {
			t.Errorf("error %d: %d times", e, seen[e])
		}
	}
}

// P10.2: addresses of paths.
func TestAddress(t *testing.T) {
	for path, want := range map[string]string{
		"a":                     "/a",
		"a/b.html":              "/a/b.html",
		"index.html":            "/",
		"a/index.html":          "/a/",
		"a/b/index.html":        "/a/b/",
		"index.html/a":          "/index.html/a",
		"index.html/index.html": "/index.html/",
		"aindex.html":           "/aindex.html",
		"a/xindex.html":         "/a/xindex.html",
		"index.htm":             "/index.htm",
		longPath:                "/" + longPath,
	} {
		got, e := ship.Address(path)
		expect(t, path, got, e, want, api.OK)
	}
	for _, path := range []string{"", "/", "/a", "a/", "a//b", "..", "a/.", "A", "a b", "index.html/", longPath + "x", wide(41), "a\n"} {
		got, e := ship.Address(path)
		expect(t, path, got, e, "", api.ErrPath)
	}
}

// P10.2: paths of addresses.
func TestPath(t *testing.T) {
	for address, want := range map[string]string{
		"/":                        "index.html",
		"/a":                       "a",
		"/a/":                      "a/index.html",
		"/a/b.html":                "a/b.html",
		"/a/b/":                    "a/b/index.html",
		"/index.html":              "index.html",
		"/a/index.html":            "a/index.html",
		"/index.html/":             "index.html/index.html",
		"/" + longPath:             longPath,
		"/" + longPath[:189] + "/": longPath[:189] + "/index.html",
	} {
		got, e := ship.Path(address)
		expect(t, address, got, e, want, api.OK)
	}
	for _, address := range []string{"", "a", "a/", "//", "//a", "/a//", "/.", "/../", "/A", "/a b", "/" + longPath + "x", "/" + longPath[:190] + "/", "/" + wide(41), "/a\n", "/%61"} {
		got, e := ship.Path(address)
		expect(t, address, got, e, "", api.ErrPath)
	}
}

// P10.2: Path of the Address of a path is the path.
func TestAddressAndPath(t *testing.T) {
	r := rand.New(rand.NewSource(2))
	good := 0
	for range 20_000 {
		path := mix(r, words("a b / / index.html index .html . .. - A"), 7)
		address, e := ship.Address(path)
		if e != tree.CheckPath(path) {
			t.Fatalf("%q: error %d", path, e)
		}
		if e == api.OK {
			good++
			back, e := ship.Path(address)
			expect(t, address, back, e, path, api.OK)
		}
	}
	if good < 2000 {
		t.Errorf("%d paths", good)
	}
}
