package tree

import (
	"slices"

	"masthead/api"
	"masthead/conf"
)

// setting is what settings have at a key; it is not ok if that is of another kind, or they are no table.
func setting(settings api.Value, key string, kind int) (item api.Value, ok bool) {
	if settings.Kind != api.Table {
		return api.Value{}, false
	}
	i, ok := slices.BinarySearch(settings.Keys, key)
	if !ok || settings.Items[i].Kind != kind {
		return api.Value{}, false
	}
	return settings.Items[i], true
}

// checkMeaning checks the settings of a page that have a meaning.
func checkMeaning(s Source) api.Errno {
	if !allFit(s.Settings, fits) {
		return api.ErrKind
	}
	slug, hasSlug := setting(s.Settings, "slug", api.String)
	if hasSlug && !isPart(slug.Text) {
		return api.ErrPath
	}
	for _, alias := range aliasesOf(s.Settings) {
		if !isAddress(alias.Text) && !isPath(alias.Text) {
			return api.ErrPath
		}
	}
	translation, ok := setting(s.Settings, "translation", api.String)
	if ok && !isPath(translation.Text) {
		return api.ErrName
	}
	cascade, hasCascade := setting(s.Settings, "cascade", api.Table)
	switch {
	case hasCascade && s.Kind != Section, hasSlug && s.Kind == Section && s.Key == "":
		return api.ErrState
	case slices.ContainsFunc(cascade.Keys, isOwn):
		return api.ErrName
	}
	return api.OK
}

// allFit says whether a function holds for all that a table has.
func allFit(table api.Value, fit func(key string, v api.Value) bool) bool {
	for i, key := range table.Keys {
		if !fit(key, table.Items[i]) {
			return false
		}
	}
	return true
}

// fits says whether a setting is of the kind that its meaning needs.
func fits(key string, v api.Value) bool {
	switch key {
	case "slug", "translation":
		return v.Kind == api.String
	case "aliases":
		return v.Kind == api.List && areAll(v.Items, api.String)
	case "menus":
		return v.Kind == api.Table && areAll(v.Items, api.Table)
	case "cascade":
		return v.Kind == api.Table && allFit(v, fitsBelow)
	}
	return fitsBelow(key, v)
}

// fitsBelow is fits for settings that may also hold for the pages below a section.
func fitsBelow(key string, v api.Value) bool {
	switch key {
	case "title":
		return v.Kind == api.String
	case "weight":
		return v.Kind == api.Int
	case "date", "publish", "expire":
		return v.Kind == api.Day
	case "draft":
		return v.Kind == api.Bool
	}
	return true
}

// isOwn says whether a setting holds for the page alone that has it.
func isOwn(key string) bool {
	switch key {
	case "slug", "translation", "aliases", "menus", "cascade":
		return true
	}
	return false
}

func areAll(l []api.Value, kind int) bool {
	return !slices.ContainsFunc(l, func(v api.Value) bool { return v.Kind != kind })
}

// aliasesOf are the aliases that settings have, if they are strings.
func aliasesOf(settings api.Value) []api.Value {
	aliases, ok := setting(settings, "aliases", api.List)
	if !ok || !areAll(aliases.Items, api.String) {
		return nil
	}
	return aliases.Items
}

// translationKey is what a page has in common with its translations.
func translationKey(p Page) string {
	if translation, ok := setting(p.Settings, "translation", api.String); ok {
		return translation.Text
	}
	return p.Key
}

// titleOf is the title of a page.
func titleOf(p Page) string {
	if title, ok := setting(p.Settings, "title", api.String); ok {
		return title.Text
	}
	if p.Key == "" {
		return "Home"
	}
	_, last := cutLast(p.Key)
	return TitleOf(last)
}

// Hidden says whether a page with settings is hidden on a day.
func Hidden(settings api.Value, day int) bool {
	if conf.Check(settings) != api.OK {
		return false
	}
	draft, _ := setting(settings, "draft", api.Bool)
	from, ok := setting(settings, "publish", api.Day)
	if !ok {
		from, ok = setting(settings, "date", api.Day)
	}
	expire, expires := setting(settings, "expire", api.Day)
	return draft.Bool || ok && from.Int > day || expires && expire.Int <= day
}
