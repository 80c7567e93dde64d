package lang_test

import (
	"fmt"
	"slices"
	"strings"
	"testing"

	"masthead/api"
	"masthead/lang"
)

// flaw is what makes a language wrong.
type flaw struct {
	name string
	do   func(l *lang.Language)
	e    api.Errno
}

// flaws are in the order in which they are looked for.
var flaws = []flaw{
	{"the name of the Parent", func(l *lang.Language) { l.Parent = "EN" }, api.ErrName},
	{"too many forms", func(l *lang.Language) { l.Rule = rule(slices.Repeat(tests(within(2, 1)), 7)...) }, api.ErrLarge},
	{"a form", func(l *lang.Language) {
		if len(l.Rule.Forms) < 7 {
			l.Rule = rule(within(2, 1))
		}
	}, api.ErrRange},
	{"a long Group", func(l *lang.Language) { l.Group = wide(9) }, api.ErrLarge},
	{"eleven Months", func(l *lang.Language) { l.Months = l.Months[1:] }, api.ErrForm},
	{"a byte of Point", func(l *lang.Language) { l.Point = "\x1f" }, api.ErrByte},
	{"a long Day", func(l *lang.Language) { l.Days[2] = wide(41) }, api.ErrLarge},
	{"a Day twice", func(l *lang.Language) { l.Days[0] = l.Days[1] }, api.ErrTwice},
	{"too many Letters", func(l *lang.Language) {
		for i := range lang.MaxLetters {
			l.Letters = append(l.Letters, fmt.Sprintf("%04d", i))
		}
	}, api.ErrLarge},
	{"an empty Letter", func(l *lang.Language) { l.Letters = append(l.Letters, "") }, api.ErrForm},
	{"a Letter twice", func(l *lang.Language) { l.Letters = append(l.Letters, "ch") }, api.ErrTwice},
	{"too many Strings", func(l *lang.Language) {
		for i := range lang.MaxStrings {
			l.Strings = append(l.Strings, lang.Entry{Key: fmt.Sprintf("z%04d", i)})
		}
	}, api.ErrLarge},
	{"a Key", func(l *lang.Language) { l.Strings[0].Key = "A" }, api.ErrName},
	{"the order of Keys", func(l *lang.Language) { l.Strings[1].Key = "a" }, api.ErrOrder},
	{"a long Text", func(l *lang.Language) { l.Strings[2].Text = wide(lang.MaxMessage+1) + "}" }, api.ErrLarge},
	{"a Text", func(l *lang.Language) { l.Strings[3].Text = "{" }, api.ErrSyntax},
}

// P8.1: each error, and, of two, the one that is looked for first.
func TestLanguagesWithFlaws(t *testing.T) {
	for i, x := range flaws {
		l := german()
		x.do(&l)
		if e := lang.CheckLanguage(l); e != x.e {
			t.Errorf("%s: error %d, want %d", x.name, e, x.e)
		}
		for _, y := range flaws[i+1:] {
			l := german()
			x.do(&l)
			y.do(&l)
			if e := lang.CheckLanguage(l); e != x.e {
				t.Errorf("%s, and %s: error %d, want %d", x.name, y.name, e, x.e)
			}
		}
	}
}

// P8.1: names of languages.
func TestNamesOfLanguages(t *testing.T) {
	for name, e := range map[string]api.Errno{"a": api.OK, "abcdefgz": api.OK, "": api.ErrName, "abcdefghi": api.ErrName, "A": api.ErrName, "a1": api.ErrName, "a-b": api.ErrName, "é": api.ErrName, "`": api.ErrName, "{": api.ErrName, "de ": api.ErrName} {
		if got := lang.CheckLanguage(lang.Language{Name: name}); got != e {
			t.Errorf("name %q: error %d", name, got)
		}
		want := e
		if name == "" {
			want = api.OK
		}
		if got := lang.CheckLanguage(lang.Language{Name: "x", Parent: name}); got != want {
			t.Errorf("parent %q: error %d", name, got)
		}
	}
	if e := lang.CheckLanguage(lang.Language{Name: "a", Parent: "a"}); e != api.ErrName {
		t.Errorf("its own Parent: error %d", e)
	}
}

// P8.1: what numbers and days are written with.
func TestSignsOfLanguages(t *testing.T) {
	for _, x := range []struct {
		name string
		do   func(l *lang.Language)
		e    api.Errno
	}{
		{"as it is", func(l *lang.Language) {}, api.OK},
		{"nothing", func(l *lang.Language) { *l = lang.Language{Name: "de"} }, api.OK},
		{"no Months", func(l *lang.Language) { l.Months = nil }, api.OK},
		{"no Days", func(l *lang.Language) { l.Days = nil }, api.OK},
		{"13 Months", func(l *lang.Language) { l.Months = append(l.Months, "Z") }, api.ErrForm},
		{"7 Months", func(l *lang.Language) { l.Months = l.Months[:7] }, api.ErrForm},
		{"6 Days", func(l *lang.Language) { l.Days = l.Days[:6] }, api.ErrForm},
		{"8 Days", func(l *lang.Language) { l.Days = append(l.Days, "Z") }, api.ErrForm},
		{"12 Days", func(l *lang.Language) { l.Days = l.Months }, api.ErrForm},
		{"Group", func(l *lang.Language) { l.Group = "1234567 " }, api.OK},
		{"Point", func(l *lang.Language) { l.Point = wide(8) }, api.OK},
		{"long Point", func(l *lang.Language) { l.Point = wide(9) }, api.ErrLarge},
		{"tab in Group", func(l *lang.Language) { l.Group = "\t" }, api.ErrByte},
		{"127 in Group", func(l *lang.Language) { l.Group = "\x7f" }, api.ErrByte},
		{"127 in Point", func(l *lang.Language) { l.Point = "a\x7f" }, api.ErrByte},
		{"line feed in a name", func(l *lang.Language) { l.Months[3] = "a\n" }, api.ErrByte},
		{"127 in a name", func(l *lang.Language) { l.Days[6] = "\x7f" }, api.ErrByte},
		{"an empty Month", func(l *lang.Language) { l.Months[11] = "" }, api.ErrByte},
		{"an empty Day", func(l *lang.Language) { l.Days[0] = "" }, api.ErrByte},
		{"a digit in a Month", func(l *lang.Language) { l.Months[0] = "Januar0" }, api.ErrByte},
		{"a digit in a Day", func(l *lang.Language) { l.Days[0] = "9." }, api.ErrByte},
		{"/ and : in a Day", func(l *lang.Language) { l.Days[0] = "/:" }, api.OK},
		{"a byte after a long name", func(l *lang.Language) { l.Months[0], l.Days[0] = wide(41), "1" }, api.ErrByte},
		{"a wide Month", func(l *lang.Language) { l.Months[0] = wide(40) }, api.OK},
		{"a long Month", func(l *lang.Language) { l.Months[0] = wide(41) }, api.ErrLarge},
		{"a Month twice", func(l *lang.Language) { l.Months[11] = l.Months[0] }, api.ErrTwice},
		{"a Month begins another", func(l *lang.Language) { l.Months[11] = "Janu" }, api.ErrTwice},
		{"a Month begins with another", func(l *lang.Language) { l.Months[0] = "Maiglück" }, api.ErrTwice},
		{"a Day begins another", func(l *lang.Language) { l.Days[6] = "M" }, api.ErrTwice},
		{"a Day as a Month", func(l *lang.Language) { l.Days[6] = "Mai" }, api.OK},
	} {
		l := german()
		x.do(&l)
		if e := lang.CheckLanguage(l); e != x.e {
			t.Errorf("%s: error %d, want %d", x.name, e, x.e)
		}
	}
}

// P8.1: Letters and Strings.
func TestListsOfLanguages(t *testing.T) {
	var letters []string
	for i := range lang.MaxLetters {
		letters = append(letters, fmt.Sprint(i))
	}
	for _, x := range []struct {
		l []string
		e api.Errno
	}{
		{[]string{"a", "ab", "abc", "abcd", "\x00", "é", "ü€"[:4]}, api.OK}, {[]string{"abcde"}, api.ErrForm}, {[]string{""}, api.ErrForm}, {[]string{"a", "b", "a"}, api.ErrTwice}, {[]string{"a", "a", ""}, api.ErrForm},
		{letters, api.OK}, {append(letters[:199:199], "x", ""), api.ErrLarge}, {append(letters[:199:199], "0"), api.ErrTwice},
	} {
		if e := lang.CheckLanguage(lang.Language{Name: "x", Letters: x.l}); e != x.e {
			t.Errorf("%s: error %d", short(show(x.l)), e)
		}
	}
	var most []string
	for i := range lang.MaxStrings {
		most = append(most, fmt.Sprintf("k%03d", i), wide(lang.MaxMessage))
	}
	long := strings.Repeat("a", 40)
	longest := strings.Repeat(long+".", 9) + wide(31)
	for _, x := range []struct {
		l []lang.Entry
		e api.Errno
	}{
		{entries(most...), api.OK}, {append(entries(most...), lang.Entry{}), api.ErrLarge},
		{entries("a", "", "a-b", "", "a.b", "", "a.b.c", "", "a0", "", "b_", ""), api.OK}, {entries("a", "", "a.b", "", "a", ""), api.ErrOrder}, {entries("a", "", "a", ""), api.ErrOrder},
		{entries("", ""), api.ErrName}, {entries(".", ""), api.ErrName}, {entries("a.", ""), api.ErrName}, {entries(".a", ""), api.ErrName}, {entries("a..b", ""), api.ErrName}, {entries("a.0", ""), api.ErrName}, {entries("0", ""), api.ErrName}, {entries("a b", ""), api.ErrName},
		{entries("A", ""), api.ErrName}, {entries(long+"."+long, ""), api.OK}, {entries("b."+long+"a", ""), api.ErrName}, {entries(longest, ""), api.OK}, {entries(longest+"a", ""), api.ErrName},
		{entries("b", "", "A", "", "c", "{"), api.ErrName}, {entries("b", "{", "A", ""), api.ErrSyntax}, {entries("b", "", "a", "{"), api.ErrOrder}, {entries("b", "", "a.", "{"), api.ErrName},
		{entries("a", "\x01"), api.ErrByte}, {entries("a", "{n, count, =99999999999999999999 {} other {}}"), api.ErrRange}, {entries("a", "{n, count, 0 {} 0 {} other {}}"), api.ErrTwice},
		{entries("a", "\x01"+wide(lang.MaxMessage)), api.ErrLarge}, {entries("a", strings.Repeat("{n,count,other{", 12)), api.ErrDeep}, {entries("a", strings.Repeat("{a}", 101)), api.ErrLarge},
	} {
		if e := lang.CheckLanguage(lang.Language{Name: "x", Strings: x.l}); e != x.e {
			t.Errorf("%s: error %d, want %d", short(show(x.l)), e, x.e)
		}
	}
}

// named is a language of a name and its Parent, with a space between.
func named(s string) lang.Language {
	name, parent, _ := strings.Cut(s, " ")
	return lang.Language{Name: name, Parent: parent}
}

// P8.1: CheckChain.
func TestChains(t *testing.T) {
	for s, want := range map[string]api.Errno{
		"":                                    api.ErrLarge,
		"a":                                   api.OK,
		"a,b,c,d,e,f,g,h":                     api.OK,
		"a,b,c,d,e,f,g,h,i":                   api.ErrLarge,
		"a,b,c,d,e,f,g,h,A":                   api.ErrLarge,
		"a b,b c,c d,d e,e f,f g,g h,h":       api.OK,
		"h,g h,f g,e f,d e,c d,b c,a b":       api.OK,
		"a b,b c,c d,d e,e f,f g,g h,h a":     api.ErrLoop,
		"a b,b c,c d,d e,e f,f g,g h,h b":     api.ErrLoop,
		"a b,b a":                             api.ErrLoop,
		"a b,b a,c d":                         api.ErrLoop,
		"c d,a b,b a":                         api.ErrNone,
		"x a,a b,b a":                         api.ErrLoop,
		"x a,a b,b c,c a,d e":                 api.ErrLoop,
		"x a,d e,a b,b c,c a":                 api.ErrNone,
		"a b":                                 api.ErrNone,
		"a b,b c":                             api.ErrNone,
		"a,a":                                 api.ErrTwice,
		"a,a,B":                               api.ErrTwice,
		"a,B,a":                               api.ErrName,
		"a x,b,a":                             api.ErrTwice,
		"a b,b,c b":                           api.OK,
		"a a":                                 api.ErrName,
		"a,b a,c b,d c,e d,f e,g f,h g":       api.OK,
		"a b,b,c d,d c":                       api.ErrLoop,
		"a b,b,c d,d e,e f,f g,g h,h c":       api.ErrLoop,
		"a,b,c d,d e,e f,f g,g h,h d":         api.ErrLoop,
		"a,b,c d,d e,e f,f g,g h,h aaaaaaaaa": api.ErrName,
	} {
		var all []lang.Language
		if s != "" {
			for one := range strings.SplitSeq(s, ",") {
				all = append(all, named(one))
			}
		}
		if e := lang.CheckChain(all); e != want {
			t.Errorf("%s: error %d, want %d", s, e, want)
		}
	}
	for i, x := range flaws {
		l := german()
		x.do(&l)
		if e := lang.CheckChain([]lang.Language{english(), austrian(), l, english()}); e != x.e {
			t.Errorf("flaw %d: error %d", i, e)
		}
	}
}

// P8.1: functions with a language return its error first, those with languages theirs, and then ErrNone without one of the name.
func TestErrorsOfLanguagesFirst(t *testing.T) {
	l := german()
	l.Strings[0].Key = "A"
	var e [14]api.Errno
	_, e[0] = lang.LanguageValue(l)
	_, e[1] = lang.Number(l, 1)
	_, e[2] = lang.Fixed(l, 1, -1)
	_, e[3] = lang.DayIn(l, "x", -1)
	_, e[4] = lang.ReadDayIn(l, "x", "")
	_, e[5] = lang.Collate(l, wide(2001), "")
	_, e[6] = lang.SortIn(l, []string{wide(2001)})
	_, e[7] = lang.Initials(l, []string{wide(2001)})
	_, e[8] = lang.Format(message(insert("a")), l, args("A", text("")))
	all := []lang.Language{english(), l}
	_, e[9] = lang.Chain(all, "x")
	_, _, e[10] = lang.Lookup(all, "x", "y")
	_, e[11] = lang.Say(all, "x", "hello", nil)
	_, e[12] = lang.Lacks(all, "x")
	_, e[13] = lang.Facts(all)
	for i, e := range e {
		if e != api.ErrName {
			t.Errorf("function %d: error %d", i, e)
		}
	}
	all = all[:1]
	_, e[0] = lang.Chain(all, "de")
	_, _, e[1] = lang.Lookup(all, "de", "top")
	_, e[2] = lang.Say(all, "de", "top", nil)
	_, e[3] = lang.Lacks(all, "")
	_, e[4] = lang.Lacks(nil, "en")
	_, e[5] = lang.Facts(nil)
	if want := [6]api.Errno{api.ErrNone, api.ErrNone, api.ErrNone, api.ErrNone, api.ErrLarge, api.ErrLarge}; [6]api.Errno(e[:6]) != want {
		t.Errorf("errors %v", e)
	}
}

// P8.1 to P8.11: the limits and the kinds are those of the chapter.
func TestLimits(t *testing.T) {
	limits := []int{lang.MaxLanguages, lang.MaxStrings, lang.MaxPieces, lang.MaxMessage, lang.MaxForms, lang.MaxTests, lang.MaxArgs, lang.MaxWords, lang.MaxLetters, lang.MaxDigits}
	if want := []int{8, 500, 100, 2000, 6, 20, 20, 1000, 200, 9}; !slices.Equal(limits, want) {
		t.Errorf("limits %v, want %v", limits, want)
	}
	kinds := []int{lang.Plain, lang.Insert, lang.Choose, lang.Count, lang.Hash, lang.Within, lang.All, lang.Some, lang.None}
	if want := []int{0, 1, 2, 3, 4, 1, 2, 3, 4}; !slices.Equal(kinds, want) {
		t.Errorf("kinds %v, want %v", kinds, want)
	}
}
