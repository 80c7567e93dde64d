package ship_test

import (
	"math/rand"
	"slices"
	"strconv"
	"strings"
	"testing"

	"masthead/api"
	"masthead/ship"
)

// linked is a site in which pages have one link each.
func linked(targets map[string]string) []api.Out {
	l := outs(
		"a.html", page("<p id=\"x\">"),
		"a/b/c.html", "",
		"a/b/index.html", page("<p id=\"x\"><p id=\"&quot; é%41\"><p id=\"y\" id=\"z\">"),
		"a/f.css", "<p id=\"x\">",
		"d/index.html", "<p id=\"%41\">",
		"e/index.html/index.html", "",
		"i.png", "",
		"index.html", page("<p id=\"root\">"),
		"z.html", "",
	)
	for i := range l {
		if target, ok := targets[l[i].Path]; ok {
			l[i].Body += "<a href=\"" + target + "\">"
		}
	}
	return l
}

// P10.4: where targets lead, from pages in several directories.
func TestBroken(t *testing.T) {
	for name, c := range map[string]struct{ from, good, broken string }{
		"outside":                {"index.html", "http://h https: mailto:x X:y a.b:c :x //h // javascript:x 1:2 %:x", ""},
		"no scheme":              {"index.html", "", "x/a:b ?/:b/../x#q ./a:b x?:#q"},
		"the page itself":        {"a/b/index.html", "? ?q ?q#x # #x #%78 #%22%20%C3%A9%2541 ?# #y", "#X #q #z #%41 #? #%7 #x%"},
		"from the root":          {"a/b/c.html", "/ /index.html /a.html /a/b /a/b/ /a/b/. /a/../ /a/b/c.html /a/./b /a/b/../../d //// /i.png /x/..", "/a /a/ /a/b/.. /../x:y /x /x/ /.. /a/../.. /a/b/c.html/ /i.png/ /d/index.html/ /A.html"},
		"from a page":            {"a/b/c.html", "c.html . ./ . ../b ../f.css ../../d ../../ ../../i.png ../../d/ ./c.html ../b/./c.html .//c.html index.html ../../e/index.html", "b .. d i.png ../../.. ../../../i.png c.html/ /../i.png c.html/. ../../a ./../c.html"},
		"from a directory":       {"a/b/index.html", "c.html . ../.. index.html ../f.css ../../d/index.html", "b/c.html .. ../../.."},
		"from the first page":    {"index.html", ". ./ a/b d a/b/ a.html d/. e/index.html e/index.html/ e/index.html/.", ".. ../ a e ./.. d/../.. e/"},
		"from a file at the top": {"z.html", "a/b d . z.html", ".. z x"},
		"digits of base 16":      {"z.html", "%61.html %2e %2E/ %2Fa.html /%2F/d x%2f%2e%2e%2fz.html d?%41#%2541", "d%3 %2e%2e%2fz.html %2e%2e %61%61.html %6 %g1.html %2561.html d%2"},
		"digits that are good":   {"z.html", "%61%2E%68%74%6d%6C %64 d%2f %2f%2Ed/../d", "%c3 %41 %00 %"},
		"queries":                {"z.html", "a.html?x a.html?x/../y#x a.html?? d/?.. d/? a.html?", "x?a.html /x?/"},
		"fragments":              {"z.html", "a.html# a.html#x a.html?q#x a/b#x a/b/#x /a/b/#%78 a/f.css#q i.png#q d#%2541 /#root #", "a.html#y a.html?#X a.html#x#x d#%41 d#A a/b#z x#x a.html#%20x /#x"},
	} {
		for want, targets := range map[bool]string{false: c.good, true: c.broken} {
			for _, target := range words(targets) {
				target = strings.ReplaceAll(target, "%20", " ")
				target = strings.ReplaceAll(target, "%C3%A9", "é")
				l := linked(map[string]string{c.from: target})
				links, e := ship.Broken(l, nil)
				if e != api.OK || (len(links) == 1) != want || len(links) > 1 {
					t.Errorf("%s: %s from %s: %v, error %d", name, target, c.from, links, e)
				}
			}
		}
	}
	l := linked(map[string]string{"a.html": "/a/x/../&#39;?#", "index.html": "&lt;", "i.png": "none", "z.html": "z.html"})
	links, e := ship.Broken(l, nil)
	expect(t, "targets", links, e, []ship.Link{{Path: "a.html", At: 26, Target: "/a/x/../'?#"}, {Path: "index.html", At: 29, Target: "<"}}, api.OK)
}

// P10.4: each digit of base 16 counts, and no other byte.
func TestDigits16(t *testing.T) {
	ids := "<p id=\"J0\xa0\x09\xffOo\"><p id=\"%/0%:0%@0%G0%`0%g0%0\">"
	for _, c := range []struct {
		target string
		broken int
	}{{"#%4A%30%A0%09%FF%4F%6F", 0}, {"#%4a%30%a0%09%ff%4f%6f", 0}, {"#J0%a0%09%fF%4FO", 1}, {"#%/0%:0%@0%G0%`0%g0%0", 0}, {"#%0/", 1}} {
		links, e := ship.Broken(outs("a.html", ids+"<a href=\""+c.target+"\">"), nil)
		expect(t, c.target, len(links), e, c.broken, api.OK)
	}
}

// P10.4: redirects, with or without the last slash.
func TestBrokenMoved(t *testing.T) {
	moved := redirects("/m", "/a.html", "/n/", "/m/", "/o/p/index.htm", "/d", "/r", "/none", "/s", "/s/", "/i.png", "/", "/q/", "/n")
	for want, targets := range map[bool]string{
		false: "m m/ /m#none m?x%2 ./n n/ n/index.html n/. o/p/index.htm o/p/index.htm/ q/#x q m/index.html #root i.png",
		true:  "r s s/ /d/m o/p o m/x ../m m/index.html/x q/q M %6D%6",
	} {
		for _, target := range words(targets) {
			links, e := ship.Broken(linked(map[string]string{"index.html": target}), moved)
			if e != api.OK || (len(links) > 0) != want {
				t.Errorf("%s: %v, error %d", target, links, e)
			}
		}
	}
	links, e := ship.Broken(linked(map[string]string{"index.html": "/gone"}), redirects("/gone", "/index.htm", "/index.htm", "/"))
	expect(t, "a redirect by another one", links, e, nil, api.OK)
	links, e = ship.Broken(outs("a.html", "<a href=\"/\">"), redirects("/", "/a.html"))
	expect(t, "a redirect from the root", links, e, nil, api.OK)
}

// P10.4: the errors are those of Moved, then of Links.
func TestBrokenErrors(t *testing.T) {
	refuses(t, "Broken", func(l []api.Out) (any, api.Errno) { return ship.Broken(l, redirects("x", "y")) }, []ship.Link(nil))
	for name, c := range map[string]struct {
		l     []api.Out
		moved []ship.Redirect
		want  api.Errno
	}{
		"no address":             {outs("a.html", tooMany), redirects("x", "/y"), api.ErrPath},
		"twice":                  {outs("a.html", tooMany), redirects("/x", "/y", "/x/", "/"), api.ErrTwice},
		"too many":               {outs("a.html", "<a href=x>"), manyRedirects(ship.MaxRedirects + 1), api.ErrLarge},
		"too many tokens":        {outs("a.html", "<a href=x>", "b.html", tooMany), nil, api.ErrLarge},
		"ids of too many tokens": {outs("a.html", "<a href=b.html#x>", "b.html", tooMany), nil, api.ErrLarge},
	} {
		links, e := ship.Broken(c.l, c.moved)
		expect(t, name, links, e, nil, c.want)
	}
	links, e := ship.Broken(outs("a.html", "<a href=\"b#x\">", "b", tooMany), nil)
	expect(t, "too many tokens of no page", links, e, nil, api.OK)
}

// unescaped is a string without percent signs before two digits.
func unescaped(s string) string {
	for at := 0; ; at++ {
		i := strings.IndexByte(s[at:], '%')
		if i < 0 {
			return s
		}
		at += i
		if at+3 <= len(s) {
			if n, err := strconv.ParseUint("0"+strings.ReplaceAll(s[at+1:at+3], "_", "x"), 16, 16); err == nil {
				s = s[:at] + string([]byte{byte(n)}) + s[at+3:]
			}
		}
	}
}

// leadsNowhere is what the chapter says of a target.
func leadsNowhere(l []api.Out, good []ship.Redirect, from, target string) bool {
	if i := strings.IndexByte(target, ':'); i >= 0 && !strings.ContainsAny(target[:i], "/?#") || strings.HasPrefix(target, "//") {
		return false
	}
	fragment := ""
	if i := strings.IndexByte(target, '#'); i >= 0 {
		target, fragment = target[:i], target[i+1:]
	}
	if i := strings.IndexByte(target, '?'); i >= 0 {
		target = target[:i]
	}
	path := from
	at := func(path string) int { return slices.IndexFunc(l, func(o api.Out) bool { return o.Path == path }) }
	if target != "" {
		target = unescaped(target)
		address, _ := ship.Address(from)
		stack := strings.Split(address[:strings.LastIndexByte(address, '/')], "/")[1:]
		if target[0] == '/' {
			stack = nil
		}
		l := strings.Split(target, "/")
		for _, part := range l {
			if part == ".." && len(stack) == 0 {
				return true
			}
			if part == ".." {
				stack = stack[:len(stack)-1]
			} else if part != "" && part != "." {
				stack = append(stack, part)
			}
		}
		last := l[len(l)-1]
		if last == "" || last == "." || last == ".." {
			path = strings.Join(append(stack, "index.html"), "/")
		} else {
			path = strings.Join(stack, "/")
			if at(path) < 0 && at(path+"/index.html") >= 0 {
				path += "/index.html"
			}
		}
	}
	i := at(path)
	if i < 0 {
		address, e := ship.Address(path)
		return e != api.OK || !slices.ContainsFunc(good, func(r ship.Redirect) bool { return r.From == address || r.From+"/" == address || r.From == address+"/" })
	}
	ids, _ := ship.Ids(l[i].Body)
	return fragment != "" && strings.HasSuffix(path, ".html") && !slices.Contains(ids, unescaped(fragment))
}

// P10.4: random targets.
func TestBrokenRandom(t *testing.T) {
	r := rand.New(rand.NewSource(3))
	moved := redirects("/m", "/a.html", "/n/", "/m/", "/a/b/m", "/d", "/r", "/none")
	pieces := words("a a/b c.html a.html d index.html / / / . .. ../ ./ # # ? : m n/ r x y %61 %2e %2F %7 % root e/index.html i.png")
	good, _, _ := ship.Moved(linked(nil), moved)
	broken := 0
	for range 60_000 {
		from, target := pick(r, words("a.html a/b/c.html a/b/index.html index.html")), mix(r, pieces, 6)
		l := linked(map[string]string{from: target})
		links, e := ship.Broken(l, moved)
		if want := leadsNowhere(l, good, from, target); e != api.OK || (len(links) == 1) != want {
			t.Fatalf("%q from %s: %v, error %d", target, from, links, e)
		}
		broken += len(links)
	}
	if broken < 15_000 || broken > 50_000 {
		t.Errorf("%d are broken", broken)
	}
}
