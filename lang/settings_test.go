package lang_test

import (
	"fmt"
	"math/rand"
	"slices"
	"strings"
	"testing"

	"masthead/api"
	"masthead/conf"
	"masthead/lang"
)

// P8.2: settings of languages.
func TestReadLanguage(t *testing.T) {
	v, _, e := conf.Parse(`parent "en"; plural "n=1; n%10=2..4"; group "."; point ","
letters ["a" "ä" "ch"]
days ["A" "B" "C" "D" "E" "F" "G"]
months ["a" "b" "c" "d" "e" "f" "g" "h" "i" "j" "k" "l"]
strings { a { b { c "1"; d "2" }; e {} }; a-b "3"; z "{x}" }`)
	if e != api.OK {
		t.Fatal(e)
	}
	want := lang.Language{
		Name: "de", Parent: "en", Group: ".", Point: ",", Rule: rule(within(1, 1), modulo(10, 2, 4)),
		Letters: []string{"a", "ä", "ch"}, Days: strings.Split("ABCDEFG", ""), Months: strings.Split("abcdefghijkl", ""),
		Strings: entries("a-b", "3", "a.b.c", "1", "a.b.d", "2", "z", "{x}"),
	}
	l, e := lang.ReadLanguage("de", v)
	expect(t, "all settings", l, e, want, api.OK)
	l, e = lang.ReadLanguage("de", table())
	expect(t, "no settings", l, e, lang.Language{Name: "de"}, api.OK)
	l, e = lang.ReadLanguage("de", table("days", texts(), "group", text(""), "letters", texts(), "months", texts(), "parent", text(""), "plural", text(""), "point", text(""), "strings", table()))
	expect(t, "empty settings", l, e, lang.Language{Name: "de"}, api.OK)
	for i, key := range []string{"group", "parent", "point"} {
		l, e := lang.ReadLanguage("de", table(key, text("x")))
		want := []lang.Language{{Name: "de", Group: "x"}, {Name: "de", Parent: "x"}, {Name: "de", Point: "x"}}[i]
		expect(t, key, l, e, want, api.OK)
	}
}

// P8.2: settings that are none of a language.
func TestReadLanguageErrors(t *testing.T) {
	long := strings.Repeat("n=1; ", lang.MaxForms) + "n=1"
	for _, x := range []struct {
		name string
		v    api.Value
		e    api.Errno
	}{
		{"", table("a", api.Value{Kind: api.Safe}), api.ErrKind},
		{"", table("A", text(""), "group", number(1)), api.ErrName},
		{"", table("a", day(-1), "group", number(1)), api.ErrRange},
		{"", table("a", texts(), "letters", api.Value{Kind: api.Bool, Int: 1}), api.ErrForm},
		{"", api.Value{}, api.ErrKind},
		{"", texts(), api.ErrKind},
		{"", text(""), api.ErrKind},
		{"", table("a", text(""), "group", number(1)), api.ErrKind},
		{"", table("a", text(""), "parent", api.Value{}), api.ErrKind},
		{"", table("a", text(""), "plural", texts()), api.ErrKind},
		{"", table("a", text(""), "point", boolean(true)), api.ErrKind},
		{"", table("a", text(""), "months", text("")), api.ErrKind},
		{"", table("a", text(""), "months", table()), api.ErrKind},
		{"", table("a", text(""), "days", table("x", text("a"))), api.ErrKind},
		{"", table("a", text(""), "letters", api.Value{Kind: api.List, Items: []api.Value{text("a"), number(1)}}), api.ErrKind},
		{"", table("a", text(""), "letters", api.Value{Kind: api.List, Items: []api.Value{table()}}), api.ErrKind},
		{"", table("a", text(""), "letters", api.Value{Kind: api.List, Items: []api.Value{texts()}}), api.ErrKind},
		{"", table("a", text(""), "strings", texts()), api.ErrKind},
		{"", table("a", text(""), "strings", table("x", number(1))), api.ErrKind},
		{"", table("a", text(""), "strings", table("x", table("y", texts("a")))), api.ErrKind},
		{"", table("a", text(""), "strings", table("x", table("y", table("z", api.Value{})))), api.ErrKind},
		{"", table("a", number(1), "plural", text("n")), api.ErrName},
		{"", table("plural", text("n"), "z", table("a", number(1))), api.ErrName},
		{"", table("name", text("de")), api.ErrName},
		{"", table("Plural", text("n")), api.ErrName},
		{"", table("plural", text("n")), api.ErrSyntax},
		{"", table("plural", text("n%1=0")), api.ErrRange},
		{"", table("plural", text(long)), api.ErrLarge},
		{"", table("plural", text(strings.Repeat("!(", 12)+"n=1"+strings.Repeat(")", 12))), api.ErrDeep},
		{"", table("plural", text("n=1")), api.ErrName},
		{"de", table("parent", text("de")), api.ErrName},
		{"de", table("group", text(wide(9))), api.ErrLarge},
		{"de", table("months", texts("a")), api.ErrForm},
		{"de", table("days", texts("a", "b", "c", "d", "e", "f", "f")), api.ErrTwice},
		{"de", table("letters", texts("a", "")), api.ErrForm},
		{"de", table("strings", table("a", text("}"))), api.ErrSyntax},
		{"de", table("strings", table("a", text(wide(2001)))), api.ErrLarge},
	} {
		l, e := lang.ReadLanguage(x.name, x.v)
		expect(t, x.name+show(x.v), l, e, lang.Language{}, x.e)
	}
	many := table()
	for i := range lang.MaxStrings {
		many.Keys, many.Items = append(many.Keys, fmt.Sprintf("k%03d", i)), append(many.Items, text(""))
	}
	l, e := lang.ReadLanguage("de", table("strings", many))
	expect(t, "500 strings", len(l.Strings), e, lang.MaxStrings, api.OK)
	l, e = lang.ReadLanguage("de", table("strings", table("a", many, "b", text(""))))
	expect(t, "501 strings", l, e, lang.Language{}, api.ErrLarge)
}

// P8.2: languages as settings.
func TestLanguageValue(t *testing.T) {
	l := german()
	got, e := lang.LanguageValue(l)
	want := table("days", texts(l.Days...), "group", text("."), "letters", texts(l.Letters...), "months", texts(l.Months...), "parent", text("en"), "plural", text("n=1"), "point", text(","),
		"strings", table("a", table("b", table("c", text("{g, choose, he {er} other {sie}}")), "c", text("")), "a-b", text("A B"), "hello", text("Hallo, {who}!")))
	expect(t, "german", got, e, want, api.OK)
	got, e = lang.LanguageValue(lang.Language{Name: "x"})
	expect(t, "nothing", got, e, table("group", text(""), "point", text("")), api.OK)
	got, e = lang.LanguageValue(lang.Language{Name: "x", Letters: []string{"a"}, Strings: entries("b", "")})
	expect(t, "one of each", got, e, table("group", text(""), "letters", texts("a"), "point", text(""), "strings", table("b", text(""))), api.OK)
}

// P8.2: languages that cannot be written as settings.
func TestLanguageValueErrors(t *testing.T) {
	large := slices.Repeat(tests(within(999_999_998, 999_999_999)), 19)
	var deep, six, many, wideKeys []string
	for i := range 100 {
		many = append(many, fmt.Sprintf("a%03d.b.c.d.e.f", i), "")
		wideKeys = append(wideKeys, fmt.Sprintf("a%02d.%s", i, strings.Repeat("b.", 150)+"c"), "")
	}
	for i := range 200 {
		many = append(many, fmt.Sprintf("b%03d.c", i), "")
	}
	deep, six = []string{"a.b.c.d.e.f.g", ""}, []string{"a.b.c.d.e.f", ""}
	for _, x := range []struct {
		name string
		l    lang.Language
		e    api.Errno
	}{
		{"no name", lang.Language{Strings: entries("a", "", "a.b", "")}, api.ErrName},
		{"a long rule", lang.Language{Rule: rule(slices.Repeat(tests(group(lang.Some, large...)), 6)...), Strings: entries("a", "", "a.b", "")}, api.ErrLarge},
		{"a key begins another", lang.Language{Strings: entries("a", "", "a.b", ""), Letters: []string{"\x01"}}, api.ErrTwice},
		{"a key begins another, others between", lang.Language{Strings: entries("a", "", "a-b", "", "a.b", "")}, api.ErrTwice},
		{"a longer key begins another", lang.Language{Strings: entries("a.b.c", "", "a.b.c-d", "", "a.b.c.d.e", "")}, api.ErrTwice},
		{"a key begins another, but not up to a point", lang.Language{Strings: entries("a", "", "ab.c", "")}, api.OK},
		{"a Letter of a control", lang.Language{Letters: []string{"a", "\x1f"}}, api.ErrByte},
		{"a Letter of a tab", lang.Language{Letters: []string{"\t", "\n"}}, api.OK},
		{"deep keys", lang.Language{Strings: entries(deep...)}, api.ErrDeep},
		{"not so deep keys", lang.Language{Strings: entries(six...)}, api.OK},
		{"many values", lang.Language{Strings: entries(many...)}, api.ErrLarge},
		{"fewer values", lang.Language{Strings: entries(many[:198]...)}, api.OK},
		{"many values, and deep keys", lang.Language{Strings: entries(wideKeys...)}, api.ErrLarge},
	} {
		if x.name != "no name" {
			x.l.Name = "x"
		}
		v, e := lang.LanguageValue(x.l)
		if e != x.e || e != api.OK && show(v) != show(api.Value{}) {
			t.Errorf("%s: error %d", x.name, e)
		}
	}
}

// P8.2: what is written can be read, with the same Name.
func TestLanguageAgain(t *testing.T) {
	r := rand.New(rand.NewSource(2))
	for range 2000 {
		l := [...]lang.Language{english(), german(), austrian(), {Name: "x"}}[r.Intn(4)]
		l.Rule = anyRule(r)
		keys := map[string]string{}
		for range r.Intn(8) {
			key := "a"
			for range r.Intn(4) {
				key += []string{".", "-", "_", "b", "0"}[r.Intn(5)] + "c"
			}
			keys[key], _ = lang.MessageString(message(anyPieces(r, 3, false)...))
		}
		for key, s := range keys {
			l.Strings = append(l.Strings, lang.Entry{Key: key, Text: s})
		}
		slices.SortFunc(l.Strings, func(a, b lang.Entry) int { return strings.Compare(a.Key, b.Key) })
		l.Strings = slices.CompactFunc(l.Strings, func(a, b lang.Entry) bool { return a.Key == b.Key })
		twice := false
		for _, x := range l.Strings {
			for _, y := range l.Strings {
				twice = twice || strings.HasPrefix(y.Key, x.Key+".")
			}
		}
		v, e := lang.LanguageValue(l)
		if twice {
			expect(t, show(l), v, e, api.Value{}, api.ErrTwice)
			continue
		}
		if e != api.OK || conf.Check(v) != api.OK {
			t.Fatalf("%+v: error %d", l, e)
		}
		got, e := lang.ReadLanguage(l.Name, v)
		expect(t, show(l), got, e, l, api.OK)
	}
}
