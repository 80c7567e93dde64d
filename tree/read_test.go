package tree_test

import (
	"fmt"
	"math/rand"
	"slices"
	"strings"
	"testing"

	"masthead/api"
	"masthead/conf"
	"masthead/tree"
)

// P3.3: what a path says of a page.
func TestReadPages(t *testing.T) {
	for _, want := range []tree.Source{
		{Path: "_index.page", Kind: tree.Section, Language: "en"}, {Path: "_index.en.page", Kind: tree.Section, Language: "en"}, {Path: "_index.de.page", Kind: tree.Section, Language: "de"},
		{Path: "a/_index.page", Key: "a", Kind: tree.Section, Language: "en"}, {Path: "a/b/_index.de.page", Key: "a/b", Kind: tree.Section, Language: "de"},
		{Path: "a/index.page", Key: "a", Kind: tree.Bundle, Language: "en"}, {Path: "a/b/index.de.page", Key: "a/b", Kind: tree.Bundle, Language: "de"},
		{Path: "b.page", Key: "b", Kind: tree.Single, Language: "en"}, {Path: "b.en.page", Key: "b", Kind: tree.Single, Language: "en"}, {Path: "a/b.de.page", Key: "a/b", Kind: tree.Single, Language: "de"},
		{Path: "de.page", Key: "de", Kind: tree.Single, Language: "en"}, {Path: "de.de.page", Key: "de", Kind: tree.Single, Language: "de"}, {Path: "page.page", Key: "page", Kind: tree.Single, Language: "en"}, {Path: "a.b/c.page", Key: "a.b/c", Kind: tree.Single, Language: "en"}, {Path: "_index/x.page", Key: "_index/x", Kind: tree.Single, Language: "en"}, {Path: "__index.page", Key: "__index", Kind: tree.Single, Language: "en"}, {Path: "-.page", Key: "-", Kind: tree.Single, Language: "en"},
	} {
		want.Settings, want.Rest = settings(t, "title \"T\""), "body\n"
		l, f := tree.Read(files(want.Path, "title \"T\""), both)
		if f.E != api.OK || show(l) != show([]tree.Source{want}) {
			t.Errorf("%s: %+v, %+v", want.Path, l, f)
		}
		if f := tree.CheckSources(l, both); f.E != api.OK {
			t.Errorf("CheckSources of %s: %+v", want.Path, f)
		}
	}
}

// P3.3: which files are Others, and to which bundle they belong.
func TestReadOthers(t *testing.T) {
	for path, key := range map[string]string{"x/f.png": "x", "x/index.html": "x", "x/a/b/c": "x", "x/.page": "x", "x/.de.page": "x", "x/a.fr.page": "x", "x/a.b.de.page": "x", "x/a..page": "x", "x/a.page.x": "x", "x/apage": "x", "x/page": "x", "x/a.de.pages": "x", "x/index": "x", "y/z/f": "y/z", "y/z/z/f": "y/z"} {
		l, f := tree.Read(append(files("x/index.page", "", "y/z/index.de.page", ""), api.File{Path: path, Body: "data"}), both)
		i := slices.IndexFunc(l, func(s tree.Source) bool { return s.Path == path })
		if f.E != api.OK || show(l[i]) != show(tree.Source{Path: path, Key: key, Kind: tree.Other, Settings: api.Value{Kind: api.Table}, Rest: "data"}) {
			t.Errorf("%s: %+v, %+v", path, l, f)
		}
		if f := tree.CheckSources(l, both); f.E != api.OK {
			t.Errorf("CheckSources with %s: %+v", path, f)
		}
	}
	if l, f := tree.Read(files("x/index.page", "", "x/f", "%%%\na 1\n%%%\nb"), both); f.E != api.OK || l[0].Rest != "%%%\na 1\n%%%\nb" {
		t.Errorf("an Other with what looks like settings: %+v, %+v", l, f)
	}
	for _, path := range []string{"f.png", "xy/f", "y/f", "a/x/f", "x", "x-/f"} {
		_, f := tree.Read(files("x/index.page", "", path, "data", "y/z/index.de.page", ""), both)
		expectFault(t, path, f, path, api.ErrForm)
	}
}

// P3.3: sources are in the order of the paths, by bytes.
func TestReadOrder(t *testing.T) {
	l := sources(t, "b.page", "", "a/b.page", "", "_index.page", "", "a.page", "", "0.page", "", "a-b.page", "")
	var paths []string
	for _, s := range l {
		paths = append(paths, s.Path)
	}
	if got := strings.Join(paths, " "); got != "0.page _index.page a-b.page a.page a/b.page b.page" {
		t.Error(got)
	}
	if l, f := tree.Read(nil, both); len(l) != 0 || f != (tree.Fault{}) {
		t.Errorf("no files: %+v, %+v", l, f)
	}
}

// P3.3: what is wrong with a file.
func TestReadFaults(t *testing.T) {
	deep := strings.Repeat("d/", api.MaxDeep)
	for _, c := range []struct {
		path, text string
		want       api.Errno
	}{
		{"A.page", "", api.ErrPath}, {"", "", api.ErrPath}, {"b//c.page", "", api.ErrPath}, {strings.Repeat("b", 36) + ".page", "", api.ErrPath}, {deep[:20] + "x.page", "", api.OK}, {deep[:22] + "x.page", "", api.OK}, {deep + "x.page", "", api.ErrDeep}, {deep + "A.page", "", api.ErrPath}, {deep + "index.page", "title 1", api.ErrDeep},
		{"a/index.page", "", api.ErrTwice}, {"a/index.page", "title 1", api.ErrTwice},
		{"index.page", "title 1", api.ErrForm}, {"index.de.page", "", api.ErrForm}, {"a/b.page", "title 1", api.ErrForm}, {"a/b.de.page", "", api.ErrForm}, {"a/b/c.page", "", api.ErrForm}, {"a/_index.page", "", api.ErrForm}, {"a/b/index.page", "", api.ErrForm}, {"a/index.de.page", "", api.OK}, {"ab/c.page", "", api.OK}, {"a.page", "", api.OK},
		{"f", strings.Repeat("x", api.MaxBody+1), api.ErrForm}, {"a/f", strings.Repeat("x", api.MaxBody+1), api.ErrLarge}, {"a/f", strings.Repeat("x", api.MaxBody), api.OK},
		{"b.page", "title 1", api.ErrKind}, {"b.page", "slug \"A\"", api.ErrPath},
	} {
		l, f := tree.Read(append(files("a/index.page", ""), files(c.path, c.text)...), both)
		if c.want != api.OK {
			expectFault(t, c.path, f, c.path, c.want, len(l))
		} else if f.E != api.OK {
			t.Errorf("%s: %+v", c.path, f)
		}
	}
}

// P3.3: the fault of conf.Front has its position.
func TestReadPositions(t *testing.T) {
	for text, want := range map[string]tree.Fault{
		"%%%\na 1\nb [": {E: api.ErrSyntax, Pos: conf.Pos{Line: 1, Column: 1}}, "%%%\na 1\nb [\n%%%\n": {E: api.ErrSyntax, Pos: conf.Pos{Line: 4, Column: 1}}, "%%%\ntitle 1\na 1; a 2\n%%%\n": {E: api.ErrTwice, Pos: conf.Pos{Line: 3, Column: 6}},
		strings.Repeat("x", api.MaxBody+1): {E: api.ErrLarge}, "%%%\n" + strings.Repeat("x", api.MaxBody-3): {E: api.ErrLarge}, "%%%\ntitle 1\n%%%\n": {E: api.ErrKind},
	} {
		want.Path = "b/c.page"
		l, f := tree.Read([]api.File{{Path: "b/c.page", Body: text}, {Path: "a.page"}, {Path: "c.page", Body: "%%%"}}, both)
		if f != want || len(l) != 0 {
			t.Errorf("%.30q: %+v, want %+v", text, f, want)
		}
	}
}

// P3.3: of several faults the first one, file by file.
func TestReadFaultOrder(t *testing.T) {
	many := make([]api.File, api.MaxFiles+1)
	_, f := tree.Read(many, both)
	expectFault(t, "too many files", f, "", api.ErrLarge)
	for i := range many {
		many[i] = api.File{Path: fmt.Sprint("p", i, ".page")}
	}
	if l, f := tree.Read(many[1:], both); f.E != api.OK || len(l) != api.MaxFiles {
		t.Errorf("as many files as can be: %+v", f)
	}
	_, f = tree.Read(files("c.page", "title 1", "b.page", "slug 1", "a.page", ""), both)
	expectFault(t, "two faults", f, "b.page", api.ErrKind)
	_, f = tree.Read(files("b.page", "slug 1", "B", ""), both)
	expectFault(t, "order by bytes", f, "B", api.ErrPath)
	_, f = tree.Read(files("a.page", "title 1", "a.page", ""), both)
	expectFault(t, "the first of two with one path", f, "a.page", api.ErrKind)
	_, f = tree.Read(files("a.page", "", "a.page", "title 1"), both)
	expectFault(t, "the second of two with one path", f, "a.page", api.ErrTwice)
	for i := range many {
		many[i].Path = []string{"q.page", "p.page"}[i%2]
	}
	_, f = tree.Read(many[:100], both)
	expectFault(t, "many with two paths", f, "p.page", api.ErrTwice)
	many[1].Body = body("title 1")
	_, f = tree.Read(many[:100], both)
	expectFault(t, "the first of many with one path", f, "p.page", api.ErrKind)
	_, f = tree.Read(files("a/b/c.page", "", "a/index.page", "", "a/b/index.page", ""), both)
	expectFault(t, "a bundle in a bundle", f, "a/b/c.page", api.ErrForm)
	_, f = tree.Read(files("a/b/0.png", "", "a/index.page", "", "a/b/index.page", ""), both)
	expectFault(t, "a file before it", f, "a/b/index.page", api.ErrForm)
}

// P3.4: settings with a meaning.
var meanings = []struct {
	path, settings string
	want           api.Errno
}{
	{"a.page", `title ""; slug "a.b"; translation "x/y"; weight -1; date 1970-01-01; publish 1970-01-01; expire 2199-12-31; draft no; aliases ["/" "/a/" "a/b"]; menus {m {}; n {x 1}}; x {title 1}; Y 1`, api.ErrSyntax},
	{"a.page", `title ""; slug "a.b"; translation "x/y"; weight -1; date 1970-01-01; publish 1970-01-01; expire 2199-12-31; draft no; aliases ["/" "/a/" "a/b"]; menus {m {}; n {x 1}}; x {title 1}; y 1`, api.OK},
	{"a.page", `aliases []; menus {}`, api.OK}, {"a/_index.page", `slug "b"; cascade {}`, api.OK}, {"_index.page", `cascade {title ""; weight 1; date 1970-01-01; publish 1970-01-01; expire 1970-01-01; draft yes; x [1]}`, api.OK},
	{"a.page", `title 1`, api.ErrKind}, {"a.page", `title nil`, api.ErrKind}, {"a.page", `slug a`, api.ErrSyntax}, {"a.page", `slug nil`, api.ErrKind}, {"a.page", `translation yes`, api.ErrKind}, {"a.page", `weight "1"`, api.ErrKind}, {"a.page", `weight nil`, api.ErrKind},
	{"a.page", `date 1`, api.ErrKind}, {"a.page", `publish "1970-01-01"`, api.ErrKind}, {"a.page", `expire nil`, api.ErrKind}, {"a.page", `draft 1`, api.ErrKind}, {"a.page", `draft "yes"`, api.ErrKind},
	{"a.page", `aliases "a"`, api.ErrKind}, {"a.page", `aliases [1]`, api.ErrKind}, {"a.page", `aliases ["a" nil]`, api.ErrKind}, {"a.page", `aliases {}`, api.ErrKind}, {"a.page", `menus []`, api.ErrKind}, {"a.page", `menus {m 1}`, api.ErrKind}, {"a.page", `menus {m {}; n nil}`, api.ErrKind}, {"a.page", `menus "m"`, api.ErrKind},
	{"_index.page", `cascade []`, api.ErrKind}, {"_index.page", `cascade nil`, api.ErrKind}, {"_index.page", `cascade {title 1}`, api.ErrKind}, {"_index.page", `cascade {weight "1"}`, api.ErrKind}, {"_index.page", `cascade {date 1}`, api.ErrKind}, {"_index.page", `cascade {publish 1}`, api.ErrKind}, {"_index.page", `cascade {expire 1}`, api.ErrKind}, {"_index.page", `cascade {draft nil}`, api.ErrKind},
	{"a.page", `slug ""`, api.ErrPath}, {"a.page", `slug "a/b"`, api.ErrPath}, {"a.page", `slug ".."`, api.ErrPath}, {"a.page", `slug "A"`, api.ErrPath}, {"a.page", `slug "` + strings.Repeat("x", 41) + `"`, api.ErrPath}, {"a.page", `slug "` + strings.Repeat("x", 40) + `"`, api.OK},
	{"a.page", `aliases ["/a"]`, api.ErrPath}, {"a.page", `aliases ["a/"]`, api.ErrPath}, {"a.page", `aliases [""]`, api.ErrPath}, {"a.page", `aliases ["a" "A"]`, api.ErrPath}, {"a.page", `aliases ["//"]`, api.ErrPath},
	{"a.page", `translation ""`, api.ErrName}, {"a.page", `translation "/a/"`, api.ErrName}, {"a.page", `translation "a//b"`, api.ErrName},
	{"a.page", `cascade {}`, api.ErrState}, {"a/index.page", `cascade {x 1}`, api.ErrState}, {"_index.page", `slug "a"`, api.ErrState}, {"_index.de.page", `slug "a"`, api.ErrState},
	{"_index.page", `cascade {slug "a"}`, api.ErrName}, {"_index.page", `cascade {translation "a"}`, api.ErrName}, {"_index.page", `cascade {aliases []}`, api.ErrName}, {"_index.page", `cascade {menus {}}`, api.ErrName}, {"_index.page", `cascade {cascade {}}`, api.ErrName}, {"_index.page", `cascade {slug 1}`, api.ErrName}, {"a/_index.page", `cascade {x {slug 1}}`, api.OK},
	// In this order:
	{"a.page", `slug "A"; title 1`, api.ErrKind}, {"a.page", `cascade {title 1}; slug "A"`, api.ErrKind}, {"a.page", `cascade {menus 1}; menus 1`, api.ErrKind}, {"a.page", `aliases ["A"]; translation ""`, api.ErrPath}, {"a.page", `slug "A"; cascade {slug 1}`, api.ErrPath}, {"a.page", `translation ""; cascade {}`, api.ErrName}, {"a.page", `cascade {slug 1}`, api.ErrState}, {"_index.page", `cascade {slug 1}; slug "a"`, api.ErrState},
}

// P3.4: Read and CheckSources look for them in the same way.
func TestMeanings(t *testing.T) {
	for _, c := range meanings {
		l, f := tree.Read(files(c.path, c.settings), both)
		if f.E != c.want || f.E != api.OK && f.Path != c.path {
			t.Errorf("%s with %s: %+v, want error %d", c.path, c.settings, f, c.want)
		}
		if c.want == api.ErrSyntax {
			continue
		}
		l, _ = tree.Read(files(c.path, ""), both)
		l[0].Settings = settings(t, c.settings)
		f = tree.CheckSources(l, both)
		if f.E != c.want || f.E != api.OK && f != (tree.Fault{Path: c.path, E: c.want}) {
			t.Errorf("CheckSources: %s with %s: %+v, want error %d", c.path, c.settings, f, c.want)
		}
	}
}

// P3.4: what is wrong with a list of sources.
func TestCheckSources(t *testing.T) {
	deep := strings.Repeat("d/", api.MaxDeep)
	good := func() tree.Source {
		return tree.Source{Path: "b/c.page", Key: "b/c", Language: "en", Kind: tree.Single, Settings: api.Value{Kind: api.Table}}
	}
	other := func() tree.Source {
		return tree.Source{Path: "b/c/f.x", Key: "b/c", Kind: tree.Other, Settings: api.Value{Kind: api.Table}}
	}
	for name, c := range map[string]struct {
		s      tree.Source
		change func(s *tree.Source)
		want   api.Errno
	}{
		"nothing": {good(), func(s *tree.Source) {}, api.OK}, "nothing of an Other": {other(), func(s *tree.Source) {}, api.OK}, "a shorter key": {other(), func(s *tree.Source) { s.Key = "b" }, api.OK}, "a large rest": {good(), func(s *tree.Source) { s.Rest = strings.Repeat("x", api.MaxBody+1) }, api.OK},
		"no path": {good(), func(s *tree.Source) { s.Path = "B" }, api.ErrPath}, "deep": {good(), func(s *tree.Source) { s.Path, s.Kind = deep+"x", 9 }, api.ErrDeep}, "the same path": {good(), func(s *tree.Source) { s.Path, s.Kind = "a.page", 9 }, api.ErrOrder}, "an earlier path": {good(), func(s *tree.Source) { s.Path = "_index.page" }, api.ErrOrder},
		"another language": {good(), func(s *tree.Source) { s.Language = "de" }, api.ErrForm}, "no language": {good(), func(s *tree.Source) { s.Language = "" }, api.ErrForm}, "another kind": {good(), func(s *tree.Source) { s.Kind = tree.Section }, api.ErrForm}, "another key": {good(), func(s *tree.Source) { s.Key = "b" }, api.ErrForm}, "no key": {good(), func(s *tree.Source) { s.Key = "" }, api.ErrForm}, "the kind of an Other": {good(), func(s *tree.Source) { s.Kind, s.Language = tree.Other, "" }, api.ErrForm},
		"an Other with a language": {other(), func(s *tree.Source) { s.Language = "en" }, api.ErrForm}, "an Other with another kind": {other(), func(s *tree.Source) { s.Kind = tree.Single }, api.ErrForm}, "an Other without a key": {other(), func(s *tree.Source) { s.Key = "" }, api.ErrForm}, "an Other with its path as a key": {other(), func(s *tree.Source) { s.Key = "b/c/f.x" }, api.ErrForm}, "an Other elsewhere": {other(), func(s *tree.Source) { s.Key = "a" }, api.ErrForm}, "part of a part": {other(), func(s *tree.Source) { s.Key = "b/c/f" }, api.ErrForm}, "a slash at the end": {other(), func(s *tree.Source) { s.Key = "b/" }, api.ErrForm}, "an Other at the top": {other(), func(s *tree.Source) { s.Path, s.Key = "f", "" }, api.ErrForm},
		"an Other with settings": {other(), func(s *tree.Source) { s.Settings = settings(t, "x 1") }, api.ErrForm}, "an Other with no table": {other(), func(s *tree.Source) { s.Settings = api.Value{} }, api.ErrForm}, "an Other with items": {other(), func(s *tree.Source) { s.Settings.Items = make([]api.Value, conf.MaxValues) }, api.ErrForm}, "an Other with a string": {other(), func(s *tree.Source) { s.Settings.Text = "x" }, api.ErrForm},
		"settings that are none": {good(), func(s *tree.Source) { s.Settings = api.Value{Kind: api.Day, Int: -1} }, api.ErrRange}, "settings too large": {good(), func(s *tree.Source) { s.Settings.Items = make([]api.Value, conf.MaxValues) }, api.ErrLarge}, "settings that are no table": {good(), func(s *tree.Source) { s.Settings = api.Value{Kind: api.List} }, api.ErrKind}, "Nil as settings": {good(), func(s *tree.Source) { s.Settings = api.Value{} }, api.ErrKind}, "a title that is none": {good(), func(s *tree.Source) { s.Settings = settings(t, "title 1") }, api.ErrKind},
	} {
		first := tree.Source{Path: "a.page", Key: "a", Language: "en", Settings: api.Value{Kind: api.Table}}
		c.change(&c.s)
		last := tree.Source{Path: "C"}
		path, want := c.s.Path, c.want
		if want == api.OK {
			path, want = "C", api.ErrPath
		}
		l := []tree.Source{first, c.s, last}
		expectFault(t, name, tree.CheckSources(l, both), path, want)
		v, hidden, f := tree.Effective(l, both, -1)
		expectFault(t, "Effective: "+name, f, path, want, len(v), len(hidden))
		s, f := tree.Publish(l, both, -1)
		expectFault(t, "Publish: "+name, f, path, want, len(s.Pages))
	}
	expectFault(t, "too many", tree.CheckSources(make([]tree.Source, api.MaxFiles+1), both), "", api.ErrLarge)
	expectFault(t, "as many as can be", tree.CheckSources(make([]tree.Source, api.MaxFiles), both), "", api.ErrPath)
	expectFault(t, "none", tree.CheckSources(nil, both), "", api.OK)
}

// P3.4: CheckSources does not ask for what only Read knows: where bundles are.
func TestSourcesOfAnyKind(t *testing.T) {
	empty := api.Value{Kind: api.Table}
	l := []tree.Source{{Path: "a/b.page", Key: "a/b", Language: "en", Settings: empty}, {Path: "a/index.page", Key: "a", Language: "en", Kind: tree.Bundle, Settings: empty}, {Path: "index.page", Language: "en", Kind: tree.Bundle, Settings: empty}, {Path: "z/f", Key: "z", Kind: tree.Other, Settings: empty}}
	expectFault(t, "any sources", tree.CheckSources(l, both), "", api.OK)
}

// P3.3: what Read returns has no fault.
func TestReadIsChecked(t *testing.T) {
	r := rand.New(rand.NewSource(2))
	read := 0
	for range 3000 {
		l := randomFiles(r)
		s, f := tree.Read(l, both)
		if f.E != api.OK {
			continue
		}
		read++
		if f := tree.CheckSources(s, both); f.E != api.OK {
			t.Fatalf("CheckSources of %+v: %+v", s, f)
		}
		r.Shuffle(len(l), func(i, j int) { l[i], l[j] = l[j], l[i] })
		if again, f := tree.Read(l, both); f.E != api.OK || show(again) != show(s) {
			t.Fatalf("in another order: %+v, %+v", again, f)
		}
	}
	if read < 1000 {
		t.Errorf("just %d could be read", read)
	}
}
