package lang

import (
	"maps"
	"slices"
	"strings"

	"masthead/api"
)

// Chain is the names of a language, of its Parent, and so on.
func Chain(all []Language, name string) ([]string, api.Errno) {
	chain, e := checkedChain(all, name)
	if e != api.OK {
		return nil, e
	}
	var names []string
	for _, l := range chain {
		names = append(names, l.Name)
	}
	return names, api.OK
}

// checkedChain is the languages of a Chain, if there is one.
func checkedChain(all []Language, name string) ([]Language, api.Errno) {
	if e := CheckChain(all); e != api.OK {
		return nil, e
	}
	chain := chainOf(all, name)
	if len(chain) == 0 {
		return nil, api.ErrNone
	}
	return chain, api.OK
}

// chainOf is the languages of a Chain; without a language of that name there are none.
func chainOf(all []Language, name string) []Language {
	var chain []Language
	for i := find(all, name); i >= 0; i = find(all, all[i].Parent) {
		chain = append(chain, all[i])
	}
	return chain
}

// Lookup is the message with a key, and the name of the language that has it.
func Lookup(all []Language, name, key string) (string, string, api.Errno) {
	chain, e := checkedChain(all, name)
	if e != api.OK {
		return "", "", e
	}
	text, from, ok := lookup(chain, key)
	if !ok {
		return "", "", api.ErrNone
	}
	return text, from.Name, api.OK
}

// lookup is the message with a key, and the first language that has it.
func lookup(chain []Language, key string) (text string, from Language, ok bool) {
	for _, l := range chain {
		i, ok := slices.BinarySearchFunc(l.Strings, key, func(x Entry, key string) int { return strings.Compare(x.Key, key) })
		if ok {
			return l.Strings[i].Text, l, true
		}
	}
	return "", Language{}, false
}

// Say is what a language says with a key.
func Say(all []Language, name, key string, args []Arg) (string, api.Errno) {
	chain, e := checkedChain(all, name)
	if e != api.OK {
		return "", e
	}
	text, from, ok := lookup(chain, key)
	if !ok {
		return key, api.OK
	}
	m, _, _ := ReadMessage(text) // one of a language that is checked
	return Format(m, from, args)
}

// Lacks is the keys that only languages beyond a Chain have.
func Lacks(all []Language, name string) ([]string, api.Errno) {
	chain, e := checkedChain(all, name)
	if e != api.OK {
		return nil, e
	}
	lacks := texts(all)
	for key := range texts(chain) {
		delete(lacks, key)
	}
	return slices.Sorted(maps.Keys(lacks)), api.OK
}

// texts is the first message of several languages for each key that one of them has.
func texts(l []Language) map[string]string {
	all := map[string]string{}
	for _, x := range slices.Backward(l) {
		for _, entry := range x.Strings {
			all[entry.Key] = entry.Text
		}
	}
	return all
}

// Facts are the facts of all strings, as each language has them.
func Facts(all []Language) ([]api.Named, api.Errno) {
	if e := CheckChain(all); e != api.OK {
		return nil, e
	}
	var l []api.Named
	for _, x := range all {
		for key, text := range texts(chainOf(all, x.Name)) {
			l = append(l, api.Named{Name: "string:" + x.Name + ":" + key, Value: stringValue(text)})
		}
	}
	slices.SortFunc(l, func(a, b api.Named) int { return strings.Compare(a.Name, b.Name) })
	return l, api.OK
}

func stringValue(s string) api.Value { return api.Value{Kind: api.String, Text: s} }
