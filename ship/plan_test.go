package ship_test

import (
	"fmt"
	"math/rand"
	"slices"
	"strings"
	"testing"

	"masthead/api"
	"masthead/ship"
)

// steps writes steps: + and - before the paths of each.
func steps(l []ship.Step) string {
	var b strings.Builder
	for _, s := range l {
		sign := "+"
		if s.Remove {
			sign = "-"
		}
		b.WriteString(sign)
		for _, f := range s.Files {
			b.WriteString(" " + f.Path)
		}
		b.WriteString(", ")
	}
	return strings.TrimSuffix(b.String(), ", ")
}

// refer is a page that refers to targets.
func refer(targets string) string {
	var b strings.Builder
	for _, target := range words(targets) {
		b.WriteString("<a href=\"" + target + "\">")
	}
	return b.String()
}

// P10.11: the order of steps.
func TestPlan(t *testing.T) {
	for name, c := range map[string]struct {
		old, next []api.Out
		want      string
	}{
		"nothing":                   {nil, nil, ""},
		"nothing new":               {outs("a.html", "A", "b", "B"), outs("a.html", "A", "b", "B"), ""},
		"all new":                   {nil, outs("a.css", "", "b.html", "", "b.png", "", "c.html", ""), "+ a.css b.png, + b.html, + c.html"},
		"all gone":                  {outs("a.css", "", "b.html", "", "b.png", "", "c.html", ""), nil, "- b.html c.html, - a.css b.png"},
		"all changed":               {outs("a.css", "1", "b.html", "1", "b.png", "1", "c.html", "1"), outs("a.css", "2", "b.html", "2", "b.png", "2", "c.html", "2"), "+ a.css b.png, + b.html, + c.html"},
		"new before changed pages":  {outs("a.html", "1", "c.html", "1"), outs("a.html", "2", "b.html", "", "c.html", "2", "d.html", ""), "+ b.html, + d.html, + a.html, + c.html"},
		"new and changed files":     {outs("b", "1", "d", "1"), outs("a", "1", "b", "2", "c", "1", "d", "1"), "+ a b c"},
		"pages to files":            {outs("a.html", "1"), outs("a.htm", "1"), "+ a.htm, - a.html"},
		"one after the other":       {nil, outs("a.html", refer("b.html"), "b.html", refer("c.html"), "c.html", ""), "+ c.html, + b.html, + a.html"},
		"together":                  {nil, outs("a.html", refer("b.html"), "b.html", refer("c.html"), "c.html", refer("a.html")), "+ a.html b.html c.html"},
		"two rings":                 {nil, outs("a.html", refer("d.html"), "b.html", refer("c.html"), "c.html", refer("b.html"), "d.html", refer("a.html")), "+ a.html d.html, + b.html c.html"},
		"the least first":           {nil, outs("a.html", refer("b.html"), "b.html", refer("a.html"), "c.html", "", "d.html", refer("e.html"), "e.html", ""), "+ c.html, + e.html, + d.html, + a.html b.html"},
		"a ring after a ring":       {nil, outs("a.html", refer("b.html"), "b.html", refer("a.html c.html"), "c.html", refer("d.html"), "d.html", refer("c.html")), "+ c.html d.html, + a.html b.html"},
		"less is left":              {nil, outs("a.html", refer("d.html e.html f.html"), "b.html", refer("c.html"), "c.html", refer("b.html"), "d.html", "", "e.html", "", "f.html", ""), "+ d.html, + e.html, + f.html, + a.html, + b.html c.html"},
		"to itself":                 {nil, outs("a.html", refer("# a.html ?x"), "b.html", ""), "+ a.html, + b.html"},
		"not through old pages":     {outs("b.html", refer("c.html")), outs("a.html", refer("b.html"), "b.html", refer("c.html"), "c.html", refer("a.html")), "+ a.html, + c.html"},
		"not through changed pages": {outs("b.html", ""), outs("a.html", refer("b.html"), "b.html", refer("c.html"), "c.html", refer("b.html")), "+ a.html, + c.html, + b.html"},
		"not through files":         {nil, outs("a.html", refer("b"), "b", refer("c.html"), "c.html", refer("a.html")), "+ b, + a.html, + c.html"},
		"by addresses":              {nil, outs("a/index.html", refer("../b #x"), "b/index.html", refer("/c/?q#none"), "c/index.html", refer("%2e%2e/d.html"), "d.html", ""), "+ d.html, + c/index.html, + b/index.html, + a/index.html"},
		"by src":                    {nil, outs("a.html", "<iframe src=b.html>", "b.html", ""), "+ b.html, + a.html"},
		"to nothing":                {nil, outs("a.html", refer("none http://b.html //b.html ../b.html b b.html/ B.html"), "b.html", ""), "+ a.html, + b.html"},
		"references of old pages":   {outs("a.html", refer("b.html")), outs("a.html", "", "b.html", ""), "+ b.html, + a.html"},
		"five steps":                {outs("a.html", "1", "b", "1", "c.html", "", "d", ""), outs("a.html", "2", "b", "2", "e.html", "", "f", ""), "+ b f, + e.html, + a.html, - c.html, - d"},
	} {
		got, e := ship.Plan(c.old, c.next)
		expect(t, name, steps(got), e, c.want, api.OK)
		for _, s := range got {
			for _, f := range s.Files {
				i := slices.IndexFunc(c.next, func(o api.Out) bool { return o.Path == f.Path })
				if s.Remove && f.Body != "" || !s.Remove && f != c.next[i] {
					t.Errorf("%s: the body of %s is %q", name, f.Path, f.Body)
				}
			}
		}
	}
}

// P10.11: errors of Plan, in order.
func TestPlanErrors(t *testing.T) {
	many := func(prefix string, n int) []api.Out {
		l := manyOuts(n, "")
		for i := range l {
			l[i].Path = prefix + l[i].Path
		}
		return l
	}
	for name, c := range map[string]struct {
		old, next []api.Out
		want      api.Errno
	}{
		"the old one, then the new one": {outs("b", "", "a", ""), outs("A", ""), api.ErrOrder},
		"the new one":                   {many("a", 480), outs("b", "", "b/c", ""), api.ErrTwice},
		"links of the new one":          {outs("a", ""), outs("a/b", "", "b.html", tooMany), api.ErrLarge},
		"links of the old one":          {outs("b.html", tooMany), outs("b.html", ""), api.OK},
		"links of no page":              {outs("b", ""), outs("b", tooMany), api.OK},
		"many files":                    {many("a", 200), many("b", 280), api.OK},
		"too many files":                {many("a", 200), many("b", 281), api.ErrLarge},
		"the same files":                {many("a", 480), many("a", 480), api.OK},
		"too many, and a directory":     {many("a", 480), outs("ao000001.html/b", ""), api.ErrLarge},
		"a directory of the old one":    {outs("a", ""), outs("a/b", ""), api.ErrTwice},
		"a directory of the new one":    {outs("a-b", "", "a/b/c", ""), outs("a", ""), api.ErrTwice},
		"a directory further on":        {outs("a", ""), outs("a-b", "", "a.b", "", "a/b/c", ""), api.ErrTwice},
		"beside a directory":            {outs("a", "", "b/c", ""), outs("ab/c", "", "b-c", ""), api.OK},
	} {
		got, e := ship.Plan(c.old, c.next)
		if e != c.want || e != api.OK && got != nil {
			t.Errorf("%s: %s, error %d, not %d", name, steps(got), e, c.want)
		}
	}
	refuses(t, "Plan", func(l []api.Out) (any, api.Errno) { return ship.Plan(l, outs("/", "")) }, []ship.Step(nil))
	refuses(t, "Plan", func(l []api.Out) (any, api.Errno) { return ship.Plan(nil, l) }, []ship.Step(nil))
	refuses(t, "Events", func(l []api.Out) (any, api.Errno) { return ship.Events(l, outs("/", "")) }, []string(nil))
	refuses(t, "Events", func(l []api.Out) (any, api.Errno) { return ship.Events(nil, l) }, []string(nil))
	refuses(t, "Apply", func(l []api.Out) (any, api.Errno) { return ship.Apply(l, ship.Step{Files: outs("/", "")}) }, []api.Out(nil))
	refuses(t, "Apply", func(l []api.Out) (any, api.Errno) { return ship.Apply(nil, ship.Step{Remove: true, Files: l}) }, []api.Out(nil))
}

// P10.11: one step.
func TestApply(t *testing.T) {
	old := outs("a", "1", "b/c", "2", "d", "3")
	for name, c := range map[string]struct {
		l    []api.Out
		s    ship.Step
		want []api.Out
		e    api.Errno
	}{
		"nothing":                   {old, ship.Step{}, old, api.OK},
		"nothing to remove":         {old, ship.Step{Remove: true}, old, api.OK},
		"of nothing":                {nil, ship.Step{}, nil, api.OK},
		"new ones":                  {old, ship.Step{Files: outs("a0", "x", "c", "y", "e", "")}, outs("a", "1", "a0", "x", "b/c", "2", "c", "y", "d", "3", "e", ""), api.OK},
		"other bodies":              {old, ship.Step{Files: outs("a", "x", "d", "")}, outs("a", "x", "b/c", "2", "d", ""), api.OK},
		"both":                      {old, ship.Step{Files: outs("b/a", "z", "b/c", "x")}, outs("a", "1", "b/a", "z", "b/c", "x", "d", "3"), api.OK},
		"removed":                   {old, ship.Step{Remove: true, Files: outs("a", "", "d", "")}, outs("b/c", "2"), api.OK},
		"all removed":               {old, ship.Step{Remove: true, Files: outs("a", "", "b/c", "", "d", "")}, nil, api.OK},
		"removed with a body":       {old, ship.Step{Remove: true, Files: outs("a", "1")}, nil, api.ErrForm},
		"one of them with a body":   {old, ship.Step{Remove: true, Files: outs("0", "", "a", "1")}, nil, api.ErrForm},
		"removed what is not there": {old, ship.Step{Remove: true, Files: outs("a", "", "b", "")}, nil, api.ErrNone},
		"removed of nothing":        {nil, ship.Step{Remove: true, Files: outs("a", "")}, nil, api.ErrNone},
		"no path":                   {old, ship.Step{Files: outs("A", "")}, nil, api.ErrPath},
		"no path to remove":         {old, ship.Step{Remove: true, Files: outs("A", "x")}, nil, api.ErrPath},
		"disorder":                  {old, ship.Step{Remove: true, Files: outs("d", "", "a", "x")}, nil, api.ErrOrder},
		"a directory":               {old, ship.Step{Files: outs("b", "")}, nil, api.ErrTwice},
		"in a file":                 {old, ship.Step{Files: outs("a/b", "")}, nil, api.ErrTwice},
		"too many":                  {manyOuts(480, ""), ship.Step{Files: outs("a", "")}, nil, api.ErrLarge},
		"many":                      {manyOuts(479, ""), ship.Step{Files: outs("z", "")}, append(manyOuts(479, ""), outs("z", "")...), api.OK},
		"a large body":              {old, ship.Step{Files: outs("z", wide(api.MaxOut+1))}, nil, api.ErrLarge},
	} {
		got, e := ship.Apply(c.l, c.s)
		expect(t, name, got, e, c.want, c.e)
	}
}

// P10.12: the addresses of all files that are others.
func TestEvents(t *testing.T) {
	old := outs("a-b", "1", "a/index.html", "1", "a/x", "1", "b/index.html", "1", "c.html", "1", "d", "1")
	next := outs("a-b", "2", "a/index.html", "2", "a/x", "1", "c.html", "1", "e/index.html", "", "index.html", "")
	got, e := ship.Events(old, next)
	expect(t, "events", got, e, words("/ /a-b /a/ /b/ /d /e/"), api.OK)
	got, e = ship.Events(old, old)
	expect(t, "no events", got, e, nil, api.OK)
	got, e = ship.Events(nil, old)
	expect(t, "all new", got, e, words("/a-b /a/ /a/x /b/ /c.html /d"), api.OK)
	got, e = ship.Events(old, nil)
	expect(t, "all gone", got, e, words("/a-b /a/ /a/x /b/ /c.html /d"), api.OK)
	got, e = ship.Events(outs("a", ""), outs("a/b.html", tooMany, "a/index.html", ""))
	expect(t, "a file that is a directory now", got, e, words("/a /a/ /a/b.html"), api.OK)
	got, e = ship.Events(manyOuts(480, ""), outs("a", ""))
	expect(t, "many", len(got), e, 481, api.OK)
}

// anySites are an old and a new site with paths in common.
func anySites(r *rand.Rand) (old, next []api.Out) {
	paths := words("a.html b.html c.html d/index.html e/index.html f.html g.html i.png j.png s.css")
	targets := words("a.html b.html c.html d e/ f.html g.html i.png j.png s.css none /a.html#x /d/?q /e")
	body := func() string {
		var l []string
		for range r.Intn(4) {
			l = append(l, "/"+strings.TrimPrefix(pick(r, targets), "/"))
		}
		return refer(strings.Join(l, " "))
	}
	for _, path := range paths {
		was := body()
		if r.Intn(3) > 0 {
			old = append(old, api.Out{Path: path, Body: was})
		}
		if r.Intn(3) == 0 {
			was = body()
		}
		if r.Intn(4) > 0 {
			next = append(next, api.Out{Path: path, Body: was})
		}
	}
	return old, next
}

// referred are the outputs of a site to which its pages refer: all its links but those that are broken.
func referred(l []api.Out, from string) []string {
	var paths []string
	links, _ := ship.Links(l)
	for _, link := range links {
		if link.Path != from {
			continue
		}
		target, _, _ := strings.Cut(link.Target, "#")
		for _, out := range l {
			one := []api.Out{{Path: "0/index.html", Body: refer(target)}, {Path: out.Path}}
			if broken, _ := ship.Broken(one, nil); len(broken) == 0 {
				paths = append(paths, out.Path)
			}
		}
	}
	return paths
}

// planned is Plan, as the chapter has it word by word.
func planned(old, next []api.Out) []ship.Step {
	at := func(l []api.Out, path string) int {
		return slices.IndexFunc(l, func(o api.Out) bool { return o.Path == path })
	}
	isPage := func(path string) bool { return strings.HasSuffix(path, ".html") }
	var first, gonePages, goneFiles, changed []api.Out
	fresh := map[string]bool{}
	refers := map[string][]string{}
	for _, o := range next {
		i := at(old, o.Path)
		switch {
		case i >= 0 && old[i].Body == o.Body:
		case !isPage(o.Path):
			first = append(first, o)
		case i < 0:
			fresh[o.Path] = true
			refers[o.Path] = referred(next, o.Path)
		default:
			changed = append(changed, o)
		}
	}
	for _, o := range old {
		if at(next, o.Path) < 0 && isPage(o.Path) {
			gonePages = append(gonePages, api.Out{Path: o.Path})
		} else if at(next, o.Path) < 0 {
			goneFiles = append(goneFiles, api.Out{Path: o.Path})
		}
	}
	l := []ship.Step{{Files: first}}
	for len(fresh) > 0 {
		var best []string
		for page := range fresh {
			closure := []string{page}
			for i := 0; i < len(closure); i++ {
				for _, to := range refers[closure[i]] {
					if fresh[to] && !slices.Contains(closure, to) {
						closure = append(closure, to)
					}
				}
			}
			slices.Sort(closure)
			if best == nil || len(closure) < len(best) || len(closure) == len(best) && closure[0] < best[0] {
				best = closure
			}
		}
		var s ship.Step
		for _, page := range best {
			s.Files = append(s.Files, next[at(next, page)])
			delete(fresh, page)
		}
		l = append(l, s)
	}
	for _, o := range changed {
		l = append(l, ship.Step{Files: []api.Out{o}})
	}
	l = append(l, ship.Step{Remove: true, Files: gonePages}, ship.Step{Remove: true, Files: goneFiles})
	return slices.DeleteFunc(l, func(s ship.Step) bool { return len(s.Files) == 0 })
}

// P10.11: random sites: the steps, what follows of them, and the events.
func TestPlanRandom(t *testing.T) {
	r := rand.New(rand.NewSource(9))
	kept := 0
	for range 2500 {
		old, next := anySites(r)
		plan, e := ship.Plan(old, next)
		if want := planned(old, next); e != api.OK || show(plan) != show(want) {
			t.Fatalf("%v to %v\n got %s, error %d\nwant %s", old, next, steps(plan), e, steps(want))
		}
		now := old
		events := map[string]bool{}
		for i, s := range plan {
			if now, e = ship.Apply(now, s); e != api.OK {
				t.Fatalf("%v to %v: step %d has error %d", old, next, i, e)
			}
			for _, f := range s.Files {
				address, _ := ship.Address(f.Path)
				events[address] = true
			}
			kept += checkSafe(t, old, now, next)
		}
		same(t, "the new site", now, next)
		got, e := ship.Events(old, next)
		var want []string
		for address := range events {
			want = append(want, address)
		}
		slices.Sort(want)
		expect(t, "events", got, e, want, api.OK)
	}
	if kept < 3000 {
		t.Errorf("%d links of old pages", kept)
	}
}

// checkSafe checks what follows of each step: neither new nor old pages have links to what is not there. It returns how many links of old pages there are.
func checkSafe(t *testing.T, old, now, next []api.Out) int {
	has := func(l []api.Out, path string) bool {
		return slices.ContainsFunc(l, func(o api.Out) bool { return o.Path == path })
	}
	links := 0
	for _, page := range now {
		if slices.Contains(next, page) && !slices.Contains(old, page) {
			for _, path := range referred(next, page.Path) {
				if !has(now, path) {
					t.Fatalf("%v to %v: %s without %s in %v", old, next, page.Path, path, now)
				}
			}
		}
		if slices.Contains(old, page) && !slices.Contains(next, page) {
			for _, path := range referred(old, page.Path) {
				links++
				if !has(now, path) {
					t.Fatalf("%v to %v: the old %s without %s in %v", old, next, page.Path, path, now)
				}
			}
		}
	}
	return links
}

// P10.11: as many new pages as there can be, each of which refers to many.
func TestPlanMany(t *testing.T) {
	const many = 4 * api.MaxFiles
	for name, c := range map[string]struct {
		refers func(from, to int) bool
		steps  int
	}{
		"to all":         {func(from, to int) bool { return true }, 1},
		"to later ones":  {func(from, to int) bool { return to > from }, many},
		"to earlier":     {func(from, to int) bool { return to < from }, many},
		"to the next":    {func(from, to int) bool { return to == (from+1)%many }, 1},
		"to one of them": {func(from, to int) bool { return to == 7 }, many},
		"to none":        {func(from, to int) bool { return false }, many},
	} {
		l := manyOuts(many, "")
		for i := range l {
			var targets []string
			for k := range l {
				if c.refers(i, k) {
					targets = append(targets, l[k].Path)
				}
			}
			l[i].Body = refer(strings.Join(targets, " "))
		}
		plan, e := ship.Plan(nil, l)
		expect(t, name, len(plan), e, c.steps, api.OK)
		if name == "to later ones" && (plan[0].Files[0].Path != fmt.Sprintf("o%06d.html", many-1) || plan[many-1].Files[0].Path != "o000000.html") {
			t.Error("not the last one first")
		}
	}
}
