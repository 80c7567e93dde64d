package lang_test

import (
	"fmt"
	"math/rand"
	"slices"
	"strings"
	"testing"

	"masthead/api"
	"masthead/lang"
)

// P8.3: Chain.
func TestChain(t *testing.T) {
	all := []lang.Language{austrian(), english(), {Name: "x", Parent: "en"}, german()}
	for _, x := range []struct {
		name string
		want []string
		e    api.Errno
	}{
		{"en", []string{"en"}, api.OK}, {"de", []string{"de", "en"}, api.OK}, {"at", []string{"at", "de", "en"}, api.OK}, {"x", []string{"x", "en"}, api.OK},
		{"", nil, api.ErrNone}, {"y", nil, api.ErrNone}, {"EN", nil, api.ErrNone}, {"e", nil, api.ErrNone},
	} {
		got, e := lang.Chain(all, x.name)
		expect(t, x.name, got, e, x.want, x.e)
	}
	got, e := lang.Chain(nil, "en")
	expect(t, "no languages", got, e, []string(nil), api.ErrLarge)
}

// P8.3: Lookup.
func TestLookup(t *testing.T) {
	all := []lang.Language{english(), german(), austrian()}
	for _, x := range []struct{ name, key, text, from string }{
		{"at", "hello", "Servus, {who}: {n}!", "at"}, {"de", "hello", "Hallo, {who}!", "de"}, {"en", "hello", "Hello, {who}!", "en"},
		{"at", "a-b", "A B", "de"}, {"at", "a.c", "", "de"}, {"at", "top", "Top", "en"}, {"de", "top", "Top", "en"}, {"en", "top", "Top", "en"},
		{"en", "a-b", "", ""}, {"at", "a", "", ""}, {"at", "a.b", "", ""}, {"at", "", "", ""}, {"at", "z", "", ""}, {"at", "HELLO", "", ""}, {"at", wide(100_000), "", ""},
	} {
		text, from, e := lang.Lookup(all, x.name, x.key)
		want := api.OK
		if x.from == "" {
			want = api.ErrNone
		}
		expect(t, x.name+" "+x.key, [2]string{text, from}, e, [2]string{x.text, x.from}, want)
	}
	text, from, e := lang.Lookup(all[1:], "de", "top")
	expect(t, "no Parent", text+from, e, "", api.ErrNone)
	text, from, e = lang.Lookup(append(all, german()), "at", "top")
	expect(t, "twice", text+from, e, "", api.ErrTwice)
}

// P8.3: Say.
func TestSay(t *testing.T) {
	wideText := strings.Repeat("#", 1001)
	all := []lang.Language{english(), german(), austrian(), {Name: "x", Strings: entries("long", wideText, "most", wideText[1:])}}
	for _, x := range []struct {
		name, key string
		args      []lang.Arg
		want      string
		e         api.Errno
	}{
		{"at", "hello", args("who", text("du"), "n", number(1000)), "Servus, du: 1 000!", api.OK},
		{"at", "files", args("n", number(2000)), "2,000 files", api.OK}, // as English has it
		{"at", "files", args("n", number(1)), "1 file", api.OK},
		{"de", "a.b.c", args("g", text("he")), "er", api.OK},
		{"de", "a.b.c", args("g", text("x"), "z", boolean(true)), "sie", api.OK},
		{"de", "a.c", nil, "", api.OK},
		{"de", "hello", nil, "", api.ErrNone},
		{"de", "a.b.c", args("g", number(1)), "", api.ErrKind},
		{"de", "top", args("A", text("")), "", api.ErrName},
		{"de", "none", args("A", text("")), "none", api.OK},
		{"en", "a-b", nil, "a-b", api.OK},
		{"en", "", nil, "", api.OK},
		{"en", "{x}\x00", nil, "{x}\x00", api.OK},
		{"en", wideText + wideText, nil, wideText + wideText, api.OK},
		{"x", "most", nil, wideText[1:], api.OK},
		{"x", "long", nil, "", api.ErrLarge}, // MessageString would need more than MaxMessage bytes
		{"fr", "top", nil, "", api.ErrNone},
	} {
		got, e := lang.Say(all, x.name, x.key, x.args)
		expect(t, x.name+" "+x.key, got, e, x.want, x.e)
	}
}

// P8.3: Lacks.
func TestLacks(t *testing.T) {
	all := []lang.Language{austrian(), german(), english(), {Name: "x", Parent: "en", Strings: entries("a", "", "top", "")}, {Name: "y"}}
	for _, x := range []struct {
		name string
		want []string
		e    api.Errno
	}{
		{"at", []string{"a"}, api.OK}, {"de", []string{"a"}, api.OK}, {"en", []string{"a", "a-b", "a.b.c", "a.c"}, api.OK}, {"x", []string{"a-b", "a.b.c", "a.c"}, api.OK},
		{"y", []string{"a", "a-b", "a.b.c", "a.c", "files", "hello", "top"}, api.OK}, {"z", nil, api.ErrNone},
	} {
		got, e := lang.Lacks(all, x.name)
		expect(t, x.name, got, e, x.want, x.e)
	}
	got, e := lang.Lacks(all[1:3], "de")
	expect(t, "all there", got, e, []string(nil), api.OK)
}

// P8.12: Facts.
func TestFacts(t *testing.T) {
	fact := func(name, s string) api.Named { return api.Named{Name: "string:" + name, Value: text(s)} }
	de := lang.Language{Name: "de", Parent: "en", Strings: entries("a", "1", "b.c", "2")}
	en := lang.Language{Name: "en", Strings: entries("a", "3", "a-b", "{x}", "z", "")}
	at := lang.Language{Name: "d", Parent: "de", Strings: entries("z", "4")}
	want := []api.Named{
		fact("d:a", "1"), fact("d:a-b", "{x}"), fact("d:b.c", "2"), fact("d:z", "4"),
		fact("de:a", "1"), fact("de:a-b", "{x}"), fact("de:b.c", "2"), fact("de:z", ""),
		fact("en:a", "3"), fact("en:a-b", "{x}"), fact("en:z", ""),
	}
	got, e := lang.Facts([]lang.Language{de, {Name: "x"}, at, en})
	expect(t, "three languages", got, e, want, api.OK)
	got, e = lang.Facts([]lang.Language{{Name: "x"}})
	expect(t, "no strings", got, e, []api.Named(nil), api.OK)
	got, e = lang.Facts([]lang.Language{de})
	expect(t, "no Parent", got, e, []api.Named(nil), api.ErrNone)
}

// randomChain is languages whose Parents are earlier ones, in any order.
func randomChain(r *rand.Rand) []lang.Language {
	var all []lang.Language
	for i := range 1 + r.Intn(6) {
		l := lang.Language{Name: string(rune('a' + i))}
		if i > 0 && r.Intn(4) > 0 {
			l.Parent = all[r.Intn(i)].Name
		}
		for _, key := range []string{"a", "a-x", "a.x", "b", "c.d", "e"} {
			if r.Intn(3) == 0 {
				l.Strings = append(l.Strings, lang.Entry{Key: key, Text: fmt.Sprint(l.Name, r.Intn(3))})
			}
		}
		all = append(all, l)
	}
	r.Shuffle(len(all), func(i, j int) { all[i], all[j] = all[j], all[i] })
	return all
}

// P8.3, P8.12: what Lookup finds is what Say, Lacks and Facts say.
func TestLookupsOfChains(t *testing.T) {
	r := rand.New(rand.NewSource(3))
	for range 500 {
		all := randomChain(r)
		var facts []api.Named
		for _, l := range all {
			chain, _ := lang.Chain(all, l.Name)
			var lacks []string
			for _, key := range []string{"a", "a-x", "a.x", "b", "c.d", "e", "f"} {
				var want lang.Entry
				somewhere := false
				for _, x := range all {
					somewhere = somewhere || slices.ContainsFunc(x.Strings, func(y lang.Entry) bool { return y.Key == key })
				}
				for _, name := range slices.Backward(chain) {
					for _, x := range all {
						for _, y := range x.Strings {
							if x.Name == name && y.Key == key {
								want = lang.Entry{Key: name, Text: y.Text}
							}
						}
					}
				}
				s, from, e := lang.Lookup(all, l.Name, key)
				said, _ := lang.Say(all, l.Name, key, nil)
				if want.Key == "" {
					expect(t, key, s+from+said, e, key, api.ErrNone)
					if somewhere {
						lacks = append(lacks, key)
					}
					continue
				}
				expect(t, key, []string{s, from, said}, e, []string{want.Text, want.Key, want.Text}, api.OK)
				facts = append(facts, api.Named{Name: "string:" + l.Name + ":" + key, Value: text(s)})
			}
			got, e := lang.Lacks(all, l.Name)
			expect(t, l.Name, got, e, lacks, api.OK)
		}
		slices.SortFunc(facts, func(a, b api.Named) int { return strings.Compare(a.Name, b.Name) })
		got, e := lang.Facts(all)
		expect(t, show(all), got, e, facts, api.OK)
	}
}
