package asset_test

import (
	"fmt"
	"math/rand"
	"slices"
	"strings"
	"testing"

	"masthead/api"
	"masthead/asset"
)

// made is an asset of a path (in which # stands for the digits) and a new body.
func made(path, body string) asset.Made {
	return asset.Made{Path: strings.ReplaceAll(strings.ReplaceAll(path, ".#", ""), "#", ""), Name: printOf(path, body), Body: body}
}

// process are the assets of files that are known to be right.
func process(t *testing.T, small bool, l ...string) []asset.Made {
	t.Helper()
	got, fault := asset.Process(files(l...), small)
	if fault != (asset.Fault{}) {
		t.Fatalf("%s: %+v", short(show(l)), fault)
	}
	return got
}

// expectMade checks assets.
func expectMade(t *testing.T, name string, got []asset.Made, want ...asset.Made) {
	t.Helper()
	if show(got) != show(want) {
		t.Errorf("%s\n got %s\nwant %s", name, short(show(got)), short(show(want)))
	}
}

// P7.11: each file with its name, in the order of the paths.
func TestProcess(t *testing.T) {
	expectMade(t, "nothing", process(t, true))
	all := []string{"b.script", "a + b // c\n", "a.style", "a { b : c ; }", "c.image", "image 1 1\n0\n", "a/x.txt", " a '\x01 ", "a", "", "a-b", "url('a')"}
	expectMade(t, "as they are", process(t, false, all...),
		made("a.#", ""), made("a-b.#", "url('a')"), made("a.#.style", "a { b : c ; }"), made("a/x.#.txt", " a '\x01 "), made("b.#.script", "a + b // c\n"), made("c.#.image", "image 1 1\n0\n"))
	expectMade(t, "smaller", process(t, true, all...),
		made("a.#", ""), made("a-b.#", "url('a')"), made("a.#.style", "a{b :c}"), made("a/x.#.txt", " a '\x01 "), made("b.#.script", "a+b"), made("c.#.image", "image 1 1\n0\n"))
	expectMade(t, "a style in a script", process(t, true, "a.script", "url ( 'b' ) url('b')", "b", ""), made("a.#.script", "url('b')url('b')"), made("b.#", ""))
}

// P7.11: where links lead.
func TestProcessLinks(t *testing.T) {
	for _, c := range []struct{ from, link, to string }{
		{"a.style", "x", "x"},
		{"a.style", "d/y", "d/y"},
		{"a.style", "/d/y", "d/y"},
		{"a.style", "d/../x", "x"},
		{"a.style", "none/../x", "x"},
		{"a.style", "d/e/../../d/y", "d/y"},
		{"a.style", "../x", ""},
		{"a.style", "d/../../x", ""},
		{"a.style", "..", ""},
		{"a.style", "d", ""},
		{"a.style", "d/", ""},
		{"a.style", "x/", ""},
		{"a.style", "./x", ""},
		{"a.style", "d//y", ""},
		{"a.style", "//x", ""},
		{"a.style", "/../x", ""},
		{"a.style", "x?y", ""},
		{"a.style", "x#y", ""},
		{"a.style", " x", ""},
		{"a.style", "X", ""},
		{"a.style", "", ""},
		{"a.style", "/", ""},
		{"a.style", "none", ""},
		{"a.style", "https://x", ""},
		{"d/a.style", "y", "d/y"},
		{"d/a.style", "x", ""},
		{"d/a.style", "../x", "x"},
		{"d/a.style", "/x", "x"},
		{"d/a.style", "/d/y", "d/y"},
		{"d/a.style", "d/y", ""},
		{"d/a.style", "../d/y", "d/y"},
		{"d/a.style", "../../x", ""},
		{"d/a.style", "../../d/y", ""},
		{"d/a.style", "e/z", "d/e/z"},
		{"d/a.style", "e/../y", "d/y"},
		{"d/e/a.style", "../y", "d/y"},
		{"d/e/a.style", "../../x", "x"},
		{"d/e/a.style", "../../../x", ""},
		{"d/e/a.style", "/d/../x", "x"},
		{"d/e/a.style", "/d/../../x", ""},
		{"x/a.style", "..", ""},
		{"x/y/a.style", "..", "x"},
		{"x/a.style", "", ""},
	} {
		name := c.link
		if c.to != "" {
			name = "/" + printOf(c.to+".#", c.to)
		}
		body := fmt.Sprintf("a { b : url('%s') url( '%s' ) }", c.link, c.link)
		got := process(t, false, c.from, body, "x", "x", "d/y", "d/y", "d/e/z", "d/e/z")
		i := slices.IndexFunc(got, func(m asset.Made) bool { return m.Path == c.from })
		want := fmt.Sprintf("a { b : url('%s') url( '%s' ) }", name, c.link)
		if got[i].Body != want || got[i].Name != printOf(strings.Replace(c.from, ".", ".#.", 1), want) {
			t.Errorf("%s, %q: %+v, want %s", c.from, c.link, got[i], want)
		}
	}
}

// P7.11: names go through styles that name each other, in whatever order they are.
func TestProcessChains(t *testing.T) {
	l := files("c.style", "url('b.style') url('d/e.style')", "b.style", "url(\"d/e.style\")\n", "d/e.style", "x : url('../f.image') ;", "f.image", "f", "g.style", "url('c.style')url('c.style')url('none')")
	f := made("f.#.image", "f")
	for _, small := range []bool{false, true} {
		e := made("d/e.#.style", "x : url('/"+f.Name+"') ;")
		if small {
			e = made("d/e.#.style", "x :url('/"+f.Name+"')")
		}
		b := made("b.#.style", "url(\"/"+e.Name+"\")\n")
		if small {
			b = made("b.#.style", "url(\"/"+e.Name+"\")")
		}
		c := made("c.#.style", "url('/"+b.Name+"') url('/"+e.Name+"')")
		g := made("g.#.style", "url('/"+c.Name+"')url('/"+c.Name+"')url('none')")
		r := rand.New(rand.NewSource(11))
		for range 20 {
			r.Shuffle(len(l), func(i, j int) { l[i], l[j] = l[j], l[i] })
			got, fault := asset.Process(l, small)
			if fault != (asset.Fault{}) {
				t.Fatal(fault)
			}
			expectMade(t, show(l), got, b, c, e, f, g)
		}
	}
}

// P7.11: what is wrong, and where.
func TestProcessFaults(t *testing.T) {
	for _, c := range []struct {
		name  string
		files []api.File
		want  asset.Fault
	}{
		{"as many files as can be", numbered(api.MaxFiles), asset.Fault{}},
		{"too many files", numbered(api.MaxFiles + 1), asset.Fault{E: api.ErrLarge}},
		{"too many files of no path", make([]api.File, api.MaxFiles+1), asset.Fault{E: api.ErrLarge}},
		{"as large a body as can be", files("a", wide(api.MaxBody)), asset.Fault{}},
		{"a large body", files("a", "", "b", wide(api.MaxBody+1)), asset.Fault{E: api.ErrLarge}},
		{"a large body after no path", files("A", "", "b", wide(api.MaxBody+1)), asset.Fault{E: api.ErrLarge}},
		{"a large style of no form", files("a.style", "'"+wide(api.MaxBody)), asset.Fault{E: api.ErrLarge}},
		{"no path", files("a", "", "A", ""), asset.Fault{Path: "A", E: api.ErrPath}},
		{"an empty path", files("a", "", "", ""), asset.Fault{Path: "", E: api.ErrPath}},
		{"no path of a style", files("A.style", "'"), asset.Fault{Path: "A.style", E: api.ErrPath}},
		{"twice", files("b", "", "a", "", "b", "x"), asset.Fault{Path: "b", E: api.ErrTwice}},
		{"no path twice", files("B", "", "B", ""), asset.Fault{Path: "B", E: api.ErrPath}},
		{"twice, then a string", files("a.style", "x", "a.style", "'"), asset.Fault{Path: "a.style", E: api.ErrTwice}},
		{"a string, then twice", files("a.style", "x '", "a.style", "x"), asset.Fault{Path: "a.style", At: 2, E: api.ErrSyntax}},
		{"a style", files("a.style", "x \x01"), asset.Fault{Path: "a.style", At: 2, E: api.ErrByte}},
		{"a script", files("a.script", "x+/*"), asset.Fault{Path: "a.script", At: 2, E: api.ErrSyntax}},
		{"a script with a byte", files("a.script", "// \x7f"), asset.Fault{Path: "a.script", At: 3, E: api.ErrByte}},
		{"neither a style nor a script", files("a.image", "'\x01", "a", "'"), asset.Fault{}},
		{"the first one by path", files("c", "", "b.style", "'", "a.script", " '"), asset.Fault{Path: "a.script", At: 1, E: api.ErrSyntax}},
		{"no path before a style", files("a.style", "'", "A", ""), asset.Fault{Path: "A", E: api.ErrPath}},
		{"a style before no path", files("a.style", "'", "b/", ""), asset.Fault{Path: "a.style", E: api.ErrSyntax}},
		{"a style before twice", files("b", "", "b", "", "a.style", "'"), asset.Fault{Path: "a.style", E: api.ErrSyntax}},
		{"itself", files("a.style", "url('a.style')"), asset.Fault{Path: "a.style", E: api.ErrLoop}},
		{"itself, by another way", files("d/a.style", "url('x')url('../d/a.style')"), asset.Fault{Path: "d/a.style", E: api.ErrLoop}},
		{"itself, but no link", files("a.style", "url( 'a.style' )"), asset.Fault{}},
		{"itself, but no style", files("a.script", "url('a.script')", "a", "url('a')"), asset.Fault{}},
		{"two", files("b.style", "url('a.style')", "a.style", "url('b.style')"), asset.Fault{Path: "a.style", E: api.ErrLoop}},
		{"two through a third one", files("b.style", "url('c.style')", "a.style", "url('b.style')", "c.style", "url('x')url('a.style')", "x", ""), asset.Fault{Path: "a.style", E: api.ErrLoop}},
		{"a ring that the first one needs", files("a.style", "url('b.style')", "b.style", "url('c.style')", "c.style", "url('b.style')"), asset.Fault{Path: "b.style", E: api.ErrLoop}},
		{"a ring that the first one needs, in another order", files("a.style", "url('c.style')", "b.style", "url('c.style')", "c.style", "url('d.style')", "d.style", "url('c.style')"), asset.Fault{Path: "c.style", E: api.ErrLoop}},
		{"no ring", files("a.style", "url('b.style')url('c.style')", "b.style", "url('c.style')", "c.style", "url('d')", "d", ""), asset.Fault{}},
		{"a string before a ring", files("a.style", "url('a.style')", "b.style", "'"), asset.Fault{Path: "b.style", E: api.ErrSyntax}},
		{"a ring before a name", files(wide(30), "", "z.style", "url('z.style')"), asset.Fault{Path: "z.style", E: api.ErrLoop}},
		{"a name", files("a", "", wide(28), ""), asset.Fault{Path: wide(28), E: api.ErrPath}},
		{"a name in a long path", files("a", "", widePath(188), ""), asset.Fault{Path: widePath(188), E: api.ErrPath}},
		{"the first name by path", files(wide(28), "", wide(29), ""), asset.Fault{Path: wide(28), E: api.ErrPath}},
		{"a name that is needed", files("a.style", "url('"+wide(29)+"')", wide(28), "", wide(29), ""), asset.Fault{Path: wide(29), E: api.ErrPath}},
		{"a name that is needed second", files("a.style", "url('"+wide(29)+"')url('"+wide(28)+"')", wide(28), "", wide(29), ""), asset.Fault{Path: wide(29), E: api.ErrPath}},
		{"a name that is needed late", files("b.style", "url('"+wide(29)+"')", wide(28), "", wide(29), "", "a.style", "url('b.style')"), asset.Fault{Path: wide(29), E: api.ErrPath}},
		{"a name that is needed, and an own one", files("a."+wide(26)+".style", "url('"+wide(29)+"')", wide(29), ""), asset.Fault{Path: wide(29), E: api.ErrPath}},
		{"a style that is needed has no name", files("a.style", "url('b."+wide(21)+".style')", "b."+wide(21)+".style", ""), asset.Fault{Path: "b." + wide(21) + ".style", E: api.ErrPath}},
		{"a style that is needed second has a name", files("a.style", "url('b.style')", "b.style", ""), asset.Fault{}},
	} {
		got, fault := asset.Process(c.files, true)
		if fault != c.want || (fault == asset.Fault{}) != (got != nil) {
			t.Errorf("%s: %s, %+v; want %+v", c.name, short(show(got)), fault, c.want)
		}
	}
}

// P7.11: bodies that grow by the names in them. A link of 8 bytes becomes 200 here.
func TestProcessLarge(t *testing.T) {
	directory := widePath(177) + "/"
	links := func(n int) string { return strings.Repeat("url('y')", n) }
	a, b := directory+"a.style", directory+"b.style"
	for _, small := range []bool{false, true} {
		got := process(t, small, a, links(1000), directory+"y", "")
		if want := strings.Repeat("url('/"+printOf(directory+"y.#", "")+"')", 1000); got[0].Body != want || len(want) != api.MaxOut {
			t.Errorf("small %v: %s", small, short(show(got)))
		}
		for _, c := range []struct {
			name  string
			files []api.File
			want  asset.Fault
		}{
			{"too large", files(a, links(1000)+" ", directory+"y", ""), asset.Fault{Path: a, E: api.ErrLarge}},
			{"far too large", files(a, links(2500), directory+"y", ""), asset.Fault{Path: a, E: api.ErrLarge}},
			{"the first one by path", files(b, links(2000), a, links(2000), directory+"y", ""), asset.Fault{Path: a, E: api.ErrLarge}},
			{"one that is needed", files(b, links(2000), a, links(2000)+"url('b.style')", directory+"y", ""), asset.Fault{Path: b, E: api.ErrLarge}},
			{"a name that is needed", files(a, links(2000)+"url('"+wide(10)+"')", directory+"y", "", directory+wide(10), ""), asset.Fault{Path: directory + wide(10), E: api.ErrPath}},
			{"large before an own name", files(directory+"aaa.style", links(2000), directory+"y", ""), asset.Fault{Path: directory + "aaa.style", E: api.ErrLarge}},
			{"an own name", files(directory+"aaaa.style", links(1000), directory+"y", ""), asset.Fault{Path: directory + "aaaa.style", E: api.ErrPath}},
			{"a ring before large", files(a, links(2000), b, "url('b.style')", directory+"y", ""), asset.Fault{Path: b, E: api.ErrLoop}},
		} {
			if got, fault := asset.Process(c.files, small); fault != c.want || got != nil {
				t.Errorf("%s, small %v: %s, %+v; want %+v", c.name, small, short(show(got)), fault, c.want)
			}
		}
	}
}
