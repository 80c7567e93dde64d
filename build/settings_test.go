package build_test

import (
	"fmt"
	"math/rand"
	"strings"
	"testing"

	"masthead/api"
	"masthead/build"
	"masthead/conf"
)

// P9.6: settings, and what they are that are missing.
func TestReadSettings(t *testing.T) {
	usual := build.Settings{Languages: words("en"), Summary: 40}
	for body, change := range map[string]func(s *build.Settings){
		"":             func(s *build.Settings) {},
		"# nothing\n":  func(s *build.Settings) {},
		`title "A B"`:  func(s *build.Settings) { s.Title = "A B" },
		`base "x://y"`: func(s *build.Settings) { s.Base = "x://y" },
		`title ""; base ""; languages []; terms []; menus []; page 0; small no`:                      func(s *build.Settings) {},
		`title nil; base nil; languages nil; terms nil; menus nil; page nil; summary nil; small nil`: func(s *build.Settings) {},
		`languages ["de"]`:                            func(s *build.Settings) { s.Languages = words("de") },
		`languages ["de" "en" "abcdefgh" "z"]`:        func(s *build.Settings) { s.Languages = words("de en abcdefgh z") },
		`languages ["a" "b" "c" "d" "e" "f" "g" "h"]`: func(s *build.Settings) { s.Languages = words("a b c d e f g h") },
		`terms ["tags" "a" "b-_9"]`:                   func(s *build.Settings) { s.Terms = words("tags a b-_9") },
		`menus ["main" "foot"]; terms ["main"]`:       func(s *build.Settings) { s.Menus, s.Terms = words("main foot"), words("main") },
		`page 1`:                                      func(s *build.Settings) { s.Page = 1 },
		`page 100`:                                    func(s *build.Settings) { s.Page = 100 },
		`summary 0`:                                   func(s *build.Settings) { s.Summary = 0 },
		`summary 20000`:                               func(s *build.Settings) { s.Summary = 20_000 },
		`summary 1`:                                   func(s *build.Settings) { s.Summary = 1 },
		`small yes`:                                   func(s *build.Settings) { s.Small = true },
		`other [1 {a 2}]; titles 1; Page "x"`:         nil,
		`other [1 {a 2}]; titles 1; pages "x"`:        func(s *build.Settings) {},
		"title \"\xff\"":                              func(s *build.Settings) { s.Title = "\xff" },
	} {
		want := usual
		if change == nil {
			_, e := build.ReadSettings(body)
			expect(t, body, nil, e, nil, api.ErrSyntax)
			continue
		}
		change(&want)
		want.All, _, _ = conf.Parse(body)
		got, e := build.ReadSettings(body)
		expect(t, body, got, e, want, api.OK)
	}
}

// settingsFlaws are wrong settings, in the order of their errors.
var settingsFlaws = []struct {
	e    api.Errno
	many []string
}{
	{api.ErrKind, words("title_1 title_[] title_yes base_2024-01-01 base_{} languages_\"en\" languages_{} languages_[1] languages_[\"en\"_nil] terms_\"a\" terms_[[]] terms_[\"a\"_[\"b\"]] menus_1 menus_[no] page_\"1\" page_yes page_2024-01-01 summary_[] summary_\"40\" small_1 small_\"yes\"")},
	{api.ErrRange, words("page_-1 page_101 page_9223372036854775807 summary_-1 summary_20001 summary_-9223372036854775808")},
	{api.ErrName, words("languages_[\"EN\"] languages_[\"\"] languages_[\"abcdefghi\"] languages_[\"e1\"] languages_[\"en\"_\"e-n\"] languages_[\"a\"_\"b\"_\"c\"_\"d\"_\"e\"_\"f\"_\"g\"_\"h\"_\"i\"] languages_[\"é\"] languages_[\"e~\"] languages_[\"e{\"] languages_[\"`\"] terms_[\"\"] terms_[\"A\"] terms_[\"1a\"] terms_[\"a\"_\"a.b\"] terms_[\"a_b\"_\"é\"] menus_[\"a/b\"] menus_[\"-a\"] menus_[\"" + strings.Repeat("a", 41) + "\"]")},
	{api.ErrTwice, words("languages_[\"en\"_\"en\"] terms_[\"a\"_\"b\"_\"a\"] menus_[\"a\"_\"a\"]")},
}

// P9.6: each error, alone and beside a later one.
func TestReadSettingsErrors(t *testing.T) {
	_, e := build.ReadSettings("title \"A")
	expect(t, "an open string", nil, e, nil, api.ErrSyntax)
	_, e = build.ReadSettings("title 1; title 2")
	expect(t, "a key twice", nil, e, nil, api.ErrTwice)
	_, e = build.ReadSettings("title 1; x \x00")
	expect(t, "a byte", nil, e, nil, api.ErrByte)
	_, e = build.ReadSettings(strings.Repeat(" ", conf.MaxText+1))
	expect(t, "too large", nil, e, nil, api.ErrLarge)
	for i, first := range settingsFlaws {
		for _, a := range first.many {
			a = strings.ReplaceAll(a, "_", " ")
			s, e := build.ReadSettings(a)
			expect(t, a, s, e, build.Settings{}, first.e)
			for _, later := range settingsFlaws[i+1:] {
				for _, b := range later.many {
					b = strings.ReplaceAll(b, "_", " ")
					if key, _, _ := strings.Cut(a, " "); strings.HasPrefix(b, key+" ") {
						continue
					}
					for _, body := range []string{a + "; " + b, b + "\n" + a} {
						s, e := build.ReadSettings(body)
						expect(t, body, s, e, build.Settings{}, first.e)
					}
				}
			}
		}
	}
}

// P9.6: of one list an error of a name comes before two equal strings.
func TestReadSettingsLists(t *testing.T) {
	for body, want := range map[string]api.Errno{
		`languages ["en" "en" "E"]`: api.ErrName, `terms ["a" "a" 1]`: api.ErrKind, `menus ["a" "a" "A"]`: api.ErrName,
		`languages ["a" "a" "a" "a" "a" "a" "a" "a"]`: api.ErrTwice, `languages ["a" "a" "a" "a" "a" "a" "a" "a" "a"]`: api.ErrName,
		`terms ["` + strings.Repeat("a", 40) + `"]`: api.OK,
	} {
		_, e := build.ReadSettings(body)
		expect(t, body, nil, e, nil, want)
	}
	r := rand.New(rand.NewSource(4))
	for range 300 {
		key, l, bad, seen, twice := pick(r, words("languages terms menus")), "", false, map[string]bool{}, false
		for range r.Intn(9) {
			s := fmt.Sprintf("%c", pick(r, []rune("abcdefghijklmnopqrstuvwxyz")))
			if r.Intn(20) == 0 {
				s, bad = "Z", true
			}
			twice, l = twice || seen[s], l+fmt.Sprintf(" %q", s)
			seen[s] = true
		}
		want := api.OK
		if bad {
			want = api.ErrName
		} else if twice {
			want = api.ErrTwice
		}
		_, e := build.ReadSettings(key + " [" + l + "]")
		expect(t, key+l, nil, e, nil, want)
	}
}
