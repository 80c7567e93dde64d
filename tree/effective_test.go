package tree_test

import (
	"fmt"
	"math"
	"math/rand"
	"slices"
	"strings"
	"testing"

	"masthead/api"
	"masthead/conf"
	"masthead/tree"
)

// P3.5: Hidden on day 100 (1970-04-11).
func TestHidden(t *testing.T) {
	for s, want := range map[string]bool{
		"": false, "draft yes": true, "draft no": false, "draft 1": false, "draft \"yes\"": false, "x {draft yes}": false, "cascade {draft yes}": false,
		"date 1970-04-12": true, "date 1970-04-11": false, "date 1970-04-10": false, "date 2199-12-31": true, "date 101": false, "date nil": false,
		"publish 1970-04-12": true, "publish 1970-04-11": false, "date 1970-04-12; publish 1970-01-01": false, "date 1970-01-01; publish 1970-04-12": true, "date 1970-04-12; publish 1": true, "date 1970-04-11; publish nil": false,
		"expire 1970-04-10": true, "expire 1970-04-11": true, "expire 1970-04-12": false, "expire 1": false, "draft no; expire 1970-04-11": true, "draft no; date 1970-04-12": true, "date 1970-04-01; expire 1970-04-12": false, "date 1970-04-12; expire 1970-05-01": true, "date 1970-04-01; expire 1970-04-11": true,
	} {
		if got := tree.Hidden(settings(t, s), 100); got != want {
			t.Errorf("%s: %t, want %t", s, got, want)
		}
	}
	draft := api.Value{Kind: api.Table, Keys: []string{"draft"}, Items: []api.Value{{Kind: api.Bool, Bool: true}}}
	for name, change := range map[string]func(v *api.Value){
		"a list": func(v *api.Value) { v.Kind, v.Keys = api.List, nil }, "Nil": func(v *api.Value) { *v = api.Value{} }, "a list with keys": func(v *api.Value) { v.Kind = api.List }, "no key": func(v *api.Value) { v.Keys = append(v.Keys, "A"); v.Items = append(v.Items, api.Value{}) }, "too many keys": func(v *api.Value) { v.Keys = append(v.Keys, "x") }, "too many items": func(v *api.Value) { v.Items = make([]api.Value, conf.MaxValues); v.Items[0] = draft.Items[0] }, "a string": func(v *api.Value) { v.Text = "x" },
	} {
		v := api.Value{Kind: api.Table, Keys: slices.Clone(draft.Keys), Items: slices.Clone(draft.Items)}
		if !tree.Hidden(v, 100) {
			t.Fatal("a draft is not hidden")
		}
		change(&v)
		if tree.Hidden(v, 100) {
			t.Errorf("%s: hidden", name)
		}
	}
	for day, want := range map[int]string{math.MinInt: "true true false", -1: "true true false", 0: "false true false", api.MaxDay: "false false true", math.MaxInt: "false false true"} {
		got := fmt.Sprint(tree.Hidden(settings(t, "date 1970-01-01"), day), tree.Hidden(settings(t, "publish 1970-01-02"), day), tree.Hidden(settings(t, "expire 1970-01-03"), day))
		if got != want {
			t.Errorf("on day %d: %s, want %s", day, got, want)
		}
	}
}

// effective writes what Effective returns: for each source its path, a minus if it is hidden, and its settings.
func effective(t *testing.T, l []tree.Source) map[string]string {
	t.Helper()
	v, hidden, f := tree.Effective(l, both, 100)
	if f != (tree.Fault{}) || len(v) != len(l) || len(hidden) != len(l) {
		t.Fatalf("%+v, %d, %d", f, len(v), len(hidden))
	}
	out := map[string]string{}
	for i, s := range l {
		out[s.Path] = written(v[i])
		if hidden[i] {
			out[s.Path] = strings.TrimSpace("- " + out[s.Path])
		}
	}
	return out
}

// P3.6: cascades of the sections above, the nearest first.
func TestEffective(t *testing.T) {
	for name, c := range map[string][2][]string{
		"none":        {{"a.page", "x 1"}, {"a.page", "x 1"}},
		"root":        {{"_index.page", "cascade {x 1; y 1}", "a.page", "x 2"}, {"_index.page", "cascade {;x 1;y 1;}", "a.page", "x 2;y 1"}},
		"far":         {{"_index.page", "cascade {x 1; y {p 1; q 1}; z 1}", "a/_index.page", "cascade {x 2; y {q 2; r 2}}; z 3", "a/b/c.page", "y {r 3; s 3}"}, {"a/b/c.page", "x 2;y {;p 1;q 2;r 3;s 3;};z 1", "a/_index.page", "cascade {;x 2;y {;q 2;r 2;};};x 1;y {;p 1;q 1;};z 3"}},
		"own nil":     {{"_index.page", "cascade {x 1; y {z 1}}", "a.page", "x nil; y nil"}, {"a.page", "x nil;y nil"}},
		"beside":      {{"a/_index.page", "cascade {x 1}", "a.page", "", "ab.page", "", "ab/c.page", "", "a/b.page", "", "b/a/c.page", ""}, {"a.page", "", "ab.page", "", "ab/c.page", "", "a/b.page", "x 1", "b/a/c.page", "", "a/_index.page", "cascade {;x 1;}"}},
		"languages":   {{"_index.page", "cascade {x 1}", "a.de.page", "", "_index.de.page", "cascade {y 1}", "a.page", ""}, {"a.de.page", "y 1", "a.page", "x 1"}},
		"bundles":     {{"_index.page", "cascade {x 1}", "b/index.page", "", "b/f", "data"}, {"b/index.page", "x 1", "b/f", ""}},
		"bundle only": {{"b/_index.page", "cascade {x 1}", "b/c/index.page", ""}, {"b/c/index.page", "x 1"}},
		"no cascade":  {{"_index.page", "cascade {x 1}", "a/_index.page", "x 2", "a/b.page", ""}, {"a/b.page", "x 1"}},
		"hidden":      {{"_index.page", "cascade {x 1; z 1}", "a/_index.page", "draft yes; cascade {x 2; y 2}", "a/b.page", ""}, {"a/_index.page", "- cascade {;x 2;y 2;};draft yes;x 1;z 1", "a/b.page", "x 1;z 1"}},
		"hides below": {{"_index.page", "cascade {draft yes}", "a/_index.page", "cascade {x 1}", "a/b.page", "", "a/c.page", "draft no", "a/d/_index.page", "draft no; cascade {y 1; draft no}", "a/d/e.page", ""}, {"a/_index.page", "- cascade {;x 1;};draft yes", "a/b.page", "- draft yes", "a/c.page", "draft no", "a/d/_index.page", "cascade {;draft no;y 1;};draft no", "a/d/e.page", "draft no;y 1"}},
		"not itself":  {{"_index.page", "cascade {draft yes}", "a.page", ""}, {"_index.page", "cascade {;draft yes;}", "a.page", "- draft yes"}},
		"dates":       {{"_index.page", "cascade {date 1970-04-12}", "a.page", "publish 1970-04-11", "b.page", "date 1970-04-11", "c.page", ""}, {"a.page", "date 1970-04-12;publish 1970-04-11", "b.page", "date 1970-04-11", "c.page", "- date 1970-04-12"}},
		"later path":  {{"_index.page", "cascade {x 1}", "0.page", "", "0/1.page", "", "0/_index.page", "cascade {y 1}"}, {"0.page", "x 1", "0/1.page", "x 1;y 1"}},
		"one key":     {{"a/_index.en.page", "cascade {x 1; y 1}", "a/_index.page", "cascade {x 2; z 2}", "a/b.page", ""}, {"a/b.page", "x 1;y 1;z 2", "a/_index.page", "cascade {;x 2;z 2;}", "a/_index.en.page", "cascade {;x 1;y 1;}"}},
		"one hidden":  {{"a/_index.en.page", "cascade {x 1; y 1}; draft yes", "a/_index.page", "cascade {x 2; z 2}", "a/b.page", ""}, {"a/b.page", "x 2;z 2"}},
		"two roots":   {{"_index.en.page", "cascade {x 1; y 1}", "_index.page", "cascade {x 2; z 2}", "b.page", ""}, {"b.page", "x 1;y 1;z 2"}},
	} {
		got := effective(t, sources(t, c[0]...))
		for i := 0; i < len(c[1]); i += 2 {
			if got[c[1][i]] != c[1][i+1] {
				t.Errorf("%s: %s has %q, want %q", name, c[1][i], got[c[1][i]], c[1][i+1])
			}
		}
	}
}

// P3.6: Others.
func TestEffectiveOthers(t *testing.T) {
	got := effective(t, sources(t, "_index.page", "cascade {x 1}", "a/index.page", "draft yes", "a/index.de.page", "", "a/f", "1", "b/index.page", "draft yes", "b/c/f", "1", "b/index.de.page", "date 1970-04-12", "c/index.de.page", "", "c/f", "1"))
	if got["a/f"] != "" || got["b/c/f"] != "-" || got["c/f"] != "" {
		t.Error(got)
	}
	empty := api.Value{Kind: api.Table}
	other := tree.Source{Path: "a/b/f", Key: "a", Kind: tree.Other, Settings: empty}
	for name, l := range map[string][]tree.Source{
		"no bundle": {other}, "a bundle with another key": {other, {Path: "a/b/index.page", Key: "a/b", Language: "en", Kind: tree.Bundle, Settings: empty}}, "a section": {{Path: "a/_index.page", Key: "a", Language: "en", Kind: tree.Section, Settings: empty}, other}, "a page": {{Path: "a.page", Key: "a", Language: "en", Settings: empty}, other},
	} {
		if got := effective(t, l); got["a/b/f"] != "-" {
			t.Errorf("%s: %v", name, got)
		}
	}
	got = effective(t, []tree.Source{{Path: "a/a/index.page", Key: "a/a", Language: "en", Kind: tree.Bundle, Settings: empty}, other, {Path: "a/index.page", Key: "a", Language: "en", Kind: tree.Bundle, Settings: empty}})
	if got["a/b/f"] != "" {
		t.Errorf("a bundle that comes later: %v", got)
	}
}

// P3.6: the root section is above a Bundle with an empty key, which Read does not make.
func TestBundleAtTheTop(t *testing.T) {
	l := []tree.Source{{Path: "_index.page", Language: "en", Kind: tree.Section, Settings: settings(t, "cascade {x 1}")}, {Path: "index.page", Language: "en", Kind: tree.Bundle, Settings: settings(t, "")}}
	if got := effective(t, l); got["index.page"] != "x 1" || got["_index.page"] != "cascade {;x 1;}" {
		t.Error(got)
	}
}

// P3.6: faults.
func TestEffectiveFaults(t *testing.T) {
	l := sources(t, "a.page", "")
	for day, want := range map[int]api.Errno{-1: api.ErrRange, 0: api.OK, api.MaxDay: api.OK, api.MaxDay + 1: api.ErrRange, math.MinInt: api.ErrRange, math.MaxInt: api.ErrRange} {
		v, hidden, f := tree.Effective(l, both, day)
		if f != (tree.Fault{E: want}) || want != api.OK && len(v)+len(hidden) > 0 {
			t.Errorf("day %d: %+v", day, f)
		}
		if _, f := tree.Publish(l, both, day); f != (tree.Fault{E: want}) {
			t.Errorf("Publish on day %d: %+v", day, f)
		}
	}
	large := "cascade {" + numbers("a", 500) + "}"
	l = sources(t, "_index.page", large, "0.page", "", "b.page", numbers("b", 501), "c.page", numbers("b", 502), "d.page", numbers("b", 600))
	v, hidden, f := tree.Effective(l, both, 100)
	expectFault(t, "settings too large", f, "c.page", api.ErrLarge, len(v), len(hidden))
	s, f := tree.Publish(l, both, 100)
	expectFault(t, "Publish of settings too large", f, "c.page", api.ErrLarge, len(s.Pages))
	_, _, f = tree.Effective(l, both, -1)
	expectFault(t, "the day first", f, "", api.ErrRange)
	if _, _, f = tree.Effective(l[:3], both, 100); f.E != api.OK {
		t.Errorf("settings as large as can be: %+v", f)
	}
	l = sources(t, "_index.page", large, "a/0.page", numbers("b", 600), "a/_index.page", numbers("c", 600))
	_, _, f = tree.Effective(l, both, 100)
	expectFault(t, "the first in the list", f, "a/0.page", api.ErrLarge)
	l = sources(t, "_index.page", "draft yes; "+large, "c.page", numbers("b", 700))
	if _, _, f := tree.Effective(l, both, 100); f.E != api.OK {
		t.Errorf("a cascade that does not count: %+v", f)
	}
}

// slowly is Effective by the words of P3.6, for a page: its settings, and whether it is hidden.
func slowly(l []tree.Source, i int) (api.Value, bool) {
	v := l[i].Settings
	key := l[i].Key
	for n := len(key); n > 0; n-- {
		if n > 1 && key[n-1] != '/' {
			continue
		}
		above := key[:n-1]
		for j, s := range l {
			if s.Kind != tree.Section || s.Language != l[i].Language || s.Key != above {
				continue
			}
			k := slices.Index(s.Settings.Keys, "cascade")
			if _, hidden := slowly(l, j); k >= 0 && !hidden {
				v, _ = conf.Merge(v, s.Settings.Items[k])
			}
		}
	}
	return v, tree.Hidden(v, 100)
}

// P3.6: Effective of any sources.
func TestRandomEffective(t *testing.T) {
	r := rand.New(rand.NewSource(3))
	pages := 0
	for range 5000 {
		l, f := tree.Read(randomFiles(r), both)
		if f.E != api.OK {
			continue
		}
		v, hidden, f := tree.Effective(l, both, 100)
		if f.E != api.OK {
			t.Fatal(f)
		}
		for i, s := range l {
			want, wantHidden := slowly(l, i)
			if s.Kind == tree.Other {
				wantHidden = !slices.ContainsFunc(l, func(b tree.Source) bool {
					j := slices.IndexFunc(l, func(x tree.Source) bool { return x.Path == b.Path })
					return b.Kind == tree.Bundle && b.Key == s.Key && !hidden[j]
				})
			}
			if pages++; conf.Compare(v[i], want) != 0 || hidden[i] != wantHidden {
				t.Fatalf("%s: %s, %t; want %s, %t", s.Path, written(v[i]), hidden[i], written(want), wantHidden)
			}
		}
	}
	if pages < 5000 {
		t.Errorf("just %d pages", pages)
	}
}
