package lang

import (
	"slices"
	"strings"

	"masthead/api"
	"masthead/conf"
)

const (
	maxName   = 8 // bytes of the name of a language
	maxSign   = 8 // bytes of Group and Point
	maxLetter = 4 // bytes
	allMonths = 12
	allDays   = 7
)

// CheckChain says whether these can be the languages of a site.
func CheckChain(all []Language) api.Errno {
	if len(all) < 1 || len(all) > MaxLanguages {
		return api.ErrLarge
	}
	for i, l := range all {
		if e := CheckLanguage(l); e != api.OK {
			return e
		}
		if find(all[:i], l.Name) >= 0 {
			return api.ErrTwice
		}
	}
	for i := range all {
		if e := checkParents(all, i); e != api.OK {
			return e
		}
	}
	return api.OK
}

// find is the position of the language with a name, or -1.
func find(all []Language, name string) int {
	return slices.IndexFunc(all, func(l Language) bool { return l.Name == name })
}

// checkParents goes from a language to its Parent, and on.
func checkParents(all []Language, at int) api.Errno {
	next := all[at].Parent
	if next != "" && find(all, next) < 0 {
		return api.ErrNone
	}
	for range all {
		i := find(all, next)
		if i < 0 {
			return api.OK
		}
		if i == at {
			return api.ErrLoop
		}
		next = all[i].Parent
	}
	return api.OK
}

// CheckLanguage says whether a language is one, whatever others there are.
func CheckLanguage(l Language) api.Errno {
	if !isName(l.Name) || l.Parent != "" && !isName(l.Parent) || l.Parent == l.Name {
		return api.ErrName
	}
	if e := checkRule(l.Rule); e != api.OK {
		return e
	}
	if e := checkSigns(l); e != api.OK {
		return e
	}
	if e := checkLetters(l.Letters); e != api.OK {
		return e
	}
	return checkStrings(l.Strings)
}

// isName says whether a string can be the name of a language.
func isName(s string) bool {
	for i := range len(s) {
		if s[i] < 'a' || s[i] > 'z' {
			return false
		}
	}
	return s != "" && len(s) <= maxName
}

// checkSigns checks what numbers and days are written with.
func checkSigns(l Language) api.Errno {
	if len(l.Group) > maxSign || len(l.Point) > maxSign {
		return api.ErrLarge
	}
	if len(l.Months) != 0 && len(l.Months) != allMonths || len(l.Days) != 0 && len(l.Days) != allDays {
		return api.ErrForm
	}
	names := slices.Concat(l.Months, l.Days)
	switch {
	case hasControl(l.Group), hasControl(l.Point), slices.ContainsFunc(names, hasWrongByte):
		return api.ErrByte
	case slices.ContainsFunc(names, func(s string) bool { return len(s) > api.MaxPart }):
		return api.ErrLarge
	case anyBegins(l.Months), anyBegins(l.Days):
		return api.ErrTwice
	}
	return api.OK
}

// hasControl says whether a string has a byte that no sign and no name can have.
func hasControl(s string) bool {
	for i := range len(s) {
		if s[i] < ' ' || s[i] == 127 {
			return true
		}
	}
	return false
}

// hasWrongByte says whether a string cannot be a name of a month or a day for its bytes.
func hasWrongByte(s string) bool {
	return s == "" || hasControl(s) || slices.ContainsFunc([]byte(s), isDigit)
}

// anyBegins says whether a name is the beginning of another one, or is there twice.
func anyBegins(names []string) bool {
	for i, a := range names {
		for j, b := range names {
			if i != j && strings.HasPrefix(b, a) {
				return true
			}
		}
	}
	return false
}

func checkLetters(letters []string) api.Errno {
	if len(letters) > MaxLetters {
		return api.ErrLarge
	}
	if slices.ContainsFunc(letters, func(s string) bool { return s == "" || len(s) > maxLetter }) {
		return api.ErrForm
	}
	for i, letter := range letters {
		if slices.Contains(letters[:i], letter) {
			return api.ErrTwice
		}
	}
	return api.OK
}

func checkStrings(l []Entry) api.Errno {
	if len(l) > MaxStrings {
		return api.ErrLarge
	}
	for i, x := range l {
		if !isKeyRoute(x.Key) {
			return api.ErrName
		}
		if i > 0 && x.Key <= l[i-1].Key {
			return api.ErrOrder
		}
		if _, _, e := ReadMessage(x.Text); e != api.OK { // it says ErrLarge first
			return e
		}
	}
	return api.OK
}

// isKeyRoute says whether a string is a route of keys, at least one.
func isKeyRoute(s string) bool {
	if len(s) > conf.MaxRoute {
		return false
	}
	for part := range strings.SplitSeq(s, ".") {
		if !isKey(part) {
			return false
		}
	}
	return true
}

// isKey says whether a table can have a key.
func isKey(s string) bool {
	return conf.Check(api.Value{Kind: api.Table, Keys: []string{s}, Items: make([]api.Value, 1)}) == api.OK
}
