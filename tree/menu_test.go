package tree_test

import (
	"fmt"
	"math"
	"math/rand"
	"strconv"
	"strings"
	"testing"

	"masthead/api"
	"masthead/tree"
)

// menu writes entries: id=title@address, and those below in brackets.
func menu(l []tree.Entry) string {
	var out []string
	for _, x := range l {
		s := x.Id + "=" + x.Title + "@" + x.Address
		if len(x.Items) > 0 {
			s += "(" + menu(x.Items) + ")"
		}
		out = append(out, s)
	}
	return strings.Join(out, " ")
}

// P3.11: items of pages, and their titles.
func TestMenuOfPages(t *testing.T) {
	s := site(t, "_index.page", "menus {m {}; n {title \"Start\"}}", "a/b-c.page", "menus {m {weight 2}}", "a/_index.page", "title \"Aa\"; menus {m {weight 1; title \"\"}; o {}}", "d.page", "title \"\"; menus {m {parent \"a\"; title 1; weight \"9\"}}", "e.page", "menus {m {parent 1; weight -3; x 1}}", "f.de.page", "menus {m {}}", "g.page", "menus {}", "h.page", "menus {m {}}; draft yes")
	for _, c := range [][3]string{
		{"en", "m", "e=E@/e/ =Home@/ a=@/a/(d=@/d/) a/b-c=B c@/a/b-c/"}, {"en", "n", "=Start@/"}, {"en", "o", "a=Aa@/a/"}, {"en", "x", ""}, {"en", "", ""}, {"en", "M", ""}, {"de", "m", "f=F@/de/f/"}, {"de", "n", ""},
	} {
		l, e := tree.Menu(s, c[0], c[1], nil)
		if got := menu(l); e != api.OK || got != c[2] {
			t.Errorf("%s %s: %s, error %d; want %s", c[0], c[1], got, e, c[2])
		}
	}
	s = changed(s, at(t, s, "/a/"), func(p *tree.Page) { p.Settings = settings(t, "title 1; menus {m 1; n {title \"N\"}}") })
	s = changed(s, at(t, s, "/d/"), func(p *tree.Page) { p.Settings = settings(t, "menus [1]") })
	s = changed(s, at(t, s, "/e/"), func(p *tree.Page) { p.Settings = api.Value{} })
	for name, want := range map[string]string{"m": "=Home@/ a/b-c=B c@/a/b-c/", "n": "a=N@/a/ =Start@/"} {
		if l, e := tree.Menu(s, "en", name, nil); e != api.OK || menu(l) != want {
			t.Errorf("settings of other kinds: %s, error %d; want %s", menu(l), e, want)
		}
	}
}

// P3.11: extra items, and the order of items.
func TestMenuOrder(t *testing.T) {
	s := site(t, "p.page", "menus {m {weight 5; parent \"x\"}}", "q.page", "menus {m {weight 5}}")
	item := func(id, parent, title string, weight int) tree.Item {
		return tree.Item{Id: id, Parent: parent, Title: title, Address: "#" + id, Weight: weight}
	}
	for _, c := range []struct {
		extra []tree.Item
		want  string
	}{
		{[]tree.Item{item("x", "", "X", 9)}, "q=Q@/q/ x=X@#x(p=P@/p/)"},
		{[]tree.Item{item("x", "q", "X", 0)}, "q=Q@/q/(x=X@#x(p=P@/p/))"},
		{[]tree.Item{item("z", "x", "P", 5), item("o", "x", "P", 5), item("n", "x", "O", 5), item("m", "x", "p", 4), item("l", "x", "", 6), item("x", "", "X", math.MinInt), item("w", "", "W", math.MaxInt), item("v", "", "W", math.MinInt)}, "v=W@#v x=X@#x(m=p@#m n=O@#n o=P@#o p=P@/p/ z=P@#z l=@#l) q=Q@/q/ w=W@#w"},
		{[]tree.Item{item("", "x", "none", 0), item("x", "", "\xff", -1), item("y", "", "~", -1)}, "y=~@#y x=\xff@#x(=none@# p=P@/p/) q=Q@/q/"},
		{[]tree.Item{item("", "", "none", 0), item("x", "", "X", 0)}, "x=X@#x(p=P@/p/) =none@# q=Q@/q/"},
	} {
		l, e := tree.Menu(s, "en", "m", c.extra)
		if got := menu(l); e != api.OK || got != c.want {
			t.Errorf("%s, error %d; want %s", got, e, c.want)
		}
	}
}

// P3.11: errors.
func TestMenuErrors(t *testing.T) {
	s := site(t, "a.page", "menus {m {}; n {parent \"z\"}}", "b.page", "menus {m {parent \"a\"}; o {parent \"b\"}}")
	long, longer := strings.Repeat("x", tree.MaxRef), strings.Repeat("x", tree.MaxRef+1)
	large := make([]tree.Item, tree.MaxItems+1)
	for name, c := range map[string]struct {
		language, name string
		extra          []tree.Item
		want           api.Errno
	}{
		"no language": {"fr", "m", large, api.ErrName}, "an empty one": {"", "m", nil, api.ErrName}, "too many": {"en", "m", large, api.ErrLarge}, "many of one Id": {"en", "m", large[1:], api.ErrTwice},
		"a long Id": {"en", "m", []tree.Item{{Id: longer}}, api.ErrLarge}, "a long Parent": {"en", "m", []tree.Item{{Parent: longer}}, api.ErrLarge}, "a long Title": {"en", "m", []tree.Item{{Title: longer}}, api.ErrLarge}, "a long Address": {"en", "m", []tree.Item{{}, {}, {Address: longer}}, api.ErrLarge}, "as long as can be": {"en", "m", []tree.Item{{Id: long, Title: long, Address: long}, {Parent: long}}, api.OK},
		"a page's Id": {"en", "m", []tree.Item{{Id: "b", Parent: "none"}}, api.ErrTwice}, "an Id twice": {"en", "m", []tree.Item{{Id: "c", Parent: "c"}, {Id: "c"}}, api.ErrTwice}, "no Id twice": {"en", "m", []tree.Item{{}, {}}, api.ErrTwice},
		"no Parent": {"en", "m", []tree.Item{{Id: "c", Parent: "d"}}, api.ErrNone}, "no Parent, and a ring": {"en", "m", []tree.Item{{Id: "c", Parent: "c"}, {Id: "d", Parent: "e"}}, api.ErrNone}, "no Parent of a page": {"en", "n", nil, api.ErrNone}, "a Parent that is another menu's": {"en", "n", []tree.Item{{Id: "z"}}, api.OK}, "no page": {"en", "n", []tree.Item{{Id: "z", Parent: "b"}}, api.ErrNone},
		"itself": {"en", "m", []tree.Item{{Id: "c", Parent: "c"}}, api.ErrLoop}, "a page itself": {"en", "o", nil, api.ErrLoop}, "two": {"en", "m", []tree.Item{{Id: "c", Parent: "d"}, {Id: "d", Parent: "c"}}, api.ErrLoop}, "below a ring": {"en", "m", []tree.Item{{Id: "c", Parent: "d"}, {Id: "d", Parent: "c"}, {Id: "e", Parent: "d"}, {Parent: "e"}}, api.ErrLoop}, "with an empty Id": {"en", "m", []tree.Item{{}, {Id: "c", Parent: "c"}}, api.ErrLoop}, "with a page": {"en", "o", []tree.Item{{Id: "c", Parent: "b"}}, api.ErrLoop},
		"none": {"en", "m", nil, api.OK},
	} {
		l, e := tree.Menu(s, c.language, c.name, c.extra)
		if e != c.want || e != api.OK && len(l) > 0 {
			t.Errorf("%s: %s, error %d; want error %d", name, menu(l), e, c.want)
		}
	}
}

// P3.11: many items, in a row.
func TestLongMenu(t *testing.T) {
	s := site(t, "a.page", "")
	var extra []tree.Item
	for i := range tree.MaxItems {
		extra = append(extra, tree.Item{Id: strconv.Itoa(i + 1), Parent: strconv.Itoa(i)})
	}
	extra[0].Parent = ""
	l, e := tree.Menu(s, "en", "m", extra)
	for n := range tree.MaxItems {
		if e != api.OK || len(l) != 1 || l[0].Id != fmt.Sprint(n+1) {
			t.Fatalf("level %d: %+v, error %d", n, l, e)
		}
		l = l[0].Items
	}
	extra[0].Parent = fmt.Sprint(tree.MaxItems)
	if _, e := tree.Menu(s, "en", "m", extra); e != api.ErrLoop {
		t.Errorf("a long ring: error %d", e)
	}
}

// P3.11: a ring is found just if following Parents from some item does not end.
func TestRandomMenus(t *testing.T) {
	r := rand.New(rand.NewSource(6))
	s := site(t, "a.page", "")
	rings := 0
	for range 5000 {
		var extra []tree.Item
		parents := map[string]string{}
		for i := range r.Intn(6) {
			item := tree.Item{Id: strconv.Itoa(i), Title: strconv.Itoa(r.Intn(3)), Weight: r.Intn(2)}
			if r.Intn(3) > 0 {
				item.Parent = strconv.Itoa(r.Intn(6))
			}
			extra, parents[item.Id] = append(extra, item), item.Parent
		}
		want := api.OK
		for _, item := range extra {
			steps := 0
			for id := item.Id; id != "" && steps < 10; steps++ {
				parent, ok := parents[id]
				if !ok {
					want = api.ErrNone
				}
				id = parent
			}
			if steps == 10 && want == api.OK {
				want = api.ErrLoop
			}
		}
		l, e := tree.Menu(s, "en", "m", extra)
		if e != want || e == api.OK && strings.Count(menu(l), "@") != len(extra) {
			t.Fatalf("%+v: %s, error %d; want error %d", extra, menu(l), e, want)
		}
		if e == api.ErrLoop {
			rings++
		}
	}
	if rings < 100 {
		t.Errorf("just %d rings", rings)
	}
}
