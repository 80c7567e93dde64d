package build

import (
	"masthead/api"
	"masthead/tree"
)

// MenuFact is the fact of the menu with a name in a language.
func MenuFact(s tree.Site, language, name string) (api.Named, api.Errno) {
	menu, e := tree.Menu(s, language, name, nil)
	if e != api.OK {
		return api.Named{}, e
	}
	return api.Named{Name: "menu:" + language + ":" + name, Value: listOf(menu, entryOf)}, api.OK
}

func entryOf(entry tree.Entry) api.Value {
	return tableOf(
		field{"address", textOf(entry.Address)},
		field{"id", textOf(entry.Id)},
		field{"items", listOf(entry.Items, entryOf)},
		field{"title", textOf(entry.Title)},
	)
}
