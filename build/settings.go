package build

import (
	"slices"
	"strings"

	"masthead/api"
	"masthead/conf"
	"masthead/tree"
)

// What settings are that are missing.
const (
	usualLanguage = "en"
	usualSummary  = 40
)

// ReadSettings reads the settings of a site.
func ReadSettings(body string) (Settings, api.Errno) {
	all, _, e := conf.Parse(body)
	if e != api.OK {
		return Settings{}, e
	}
	if !areOfKinds(all) {
		return Settings{}, api.ErrKind
	}
	s := Settings{
		Title:     setting(all, "title", api.String).Text,
		Base:      setting(all, "base", api.String).Text,
		Languages: stringsOf(setting(all, "languages", api.List)),
		Terms:     stringsOf(setting(all, "terms", api.List)),
		Menus:     stringsOf(setting(all, "menus", api.List)),
		Page:      setting(all, "page", api.Int).Int,
		Summary:   usualSummary,
		Small:     setting(all, "small", api.Bool).Bool,
		All:       all,
	}
	if words := setting(all, "summary", api.Int); words.Kind == api.Int {
		s.Summary = words.Int
	}
	if len(s.Languages) == 0 {
		s.Languages = []string{usualLanguage}
	}
	if e := s.check(); e != api.OK {
		return Settings{}, e
	}
	return s, api.OK
}

// areOfKinds says whether all settings that have a meaning are of its kind.
func areOfKinds(all api.Value) bool {
	for i, key := range all.Keys {
		kind := api.Nil
		switch key {
		case "title", "base":
			kind = api.String
		case "languages", "terms", "menus":
			kind = api.List
		case "page", "summary":
			kind = api.Int
		case "small":
			kind = api.Bool
		default:
			continue
		}
		item := all.Items[i]
		if item.Kind != api.Nil && (item.Kind != kind || slices.ContainsFunc(item.Items, isNoString)) {
			return false
		}
	}
	return true
}

func isNoString(v api.Value) bool { return v.Kind != api.String }

func stringsOf(v api.Value) []string {
	var l []string
	for _, item := range v.Items {
		l = append(l, item.Text)
	}
	return l
}

func (s Settings) check() api.Errno {
	if s.Page < 0 || s.Page > MaxPage || s.Summary < 0 || s.Summary > api.MaxBody {
		return api.ErrRange
	}
	if len(s.Languages) > tree.MaxLanguages || !areAll(s.Languages, isLanguage) || !areAll(s.Terms, isKey) || !areAll(s.Menus, isKey) {
		return api.ErrName
	}
	if hasTwice(s.Languages) || hasTwice(s.Terms) || hasTwice(s.Menus) {
		return api.ErrTwice
	}
	return api.OK
}

// areAll says whether each string is so.
func areAll(l []string, is func(string) bool) bool {
	return !slices.ContainsFunc(l, func(s string) bool { return !is(s) })
}

func hasTwice(l []string) bool {
	seen := map[string]bool{}
	for _, s := range l {
		seen[s] = true
	}
	return len(seen) < len(l)
}

// isLanguage says whether a string is 1 to 8 bytes from a to z.
func isLanguage(s string) bool {
	return s != "" && len(s) <= 8 && strings.Trim(s, "abcdefghijklmnopqrstuvwxyz") == ""
}

func isKey(s string) bool { return conf.Check(tableOf(field{key: s})) == api.OK }
