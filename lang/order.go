package lang

import (
	"cmp"
	"slices"

	"masthead/api"
)

// Collate compares two strings by the Letters of a language.
func Collate(l Language, a, b string) (int, api.Errno) {
	if e := checkWords(l, []string{a, b}); e != api.OK {
		return 0, e
	}
	places := placesOf(l)
	return slices.Compare(unitsOf(places, a), unitsOf(places, b)), api.OK
}

// SortIn is the positions of words in the order of a language.
func SortIn(l Language, words []string) ([]int, api.Errno) {
	if e := checkWords(l, words); e != api.OK {
		return nil, e
	}
	return sorted(placesOf(l), words), api.OK
}

// Initials is the words in the order of a language, divided by their first units.
func Initials(l Language, words []string) ([]Initial, api.Errno) {
	if e := checkWords(l, words); e != api.OK {
		return nil, e
	}
	places := placesOf(l)
	var out []Initial
	for _, i := range sorted(places, words) {
		letter, _ := firstUnit(places, words[i])
		if last := len(out) - 1; last < 0 || out[last].Letter != letter {
			out = append(out, Initial{Letter: letter})
		}
		group := &out[len(out)-1]
		group.Items = append(group.Items, i)
	}
	return out, api.OK
}

func checkWords(l Language, words []string) api.Errno {
	if e := CheckLanguage(l); e != api.OK {
		return e
	}
	if len(words) > MaxWords || slices.ContainsFunc(words, func(s string) bool { return len(s) > MaxMessage }) {
		return api.ErrLarge
	}
	return api.OK
}

// placesOf is the positions of the Letters of a language.
func placesOf(l Language) map[string]int {
	places := map[string]int{}
	for i, letter := range l.Letters {
		places[letter] = i
	}
	return places
}

// firstUnit is the unit with which a word begins, and its place among all units.
func firstUnit(places map[string]int, word string) (unit string, place int) {
	if word == "" {
		return "", 0
	}
	for size := min(maxLetter, len(word)); size > 0; size-- {
		if place, ok := places[word[:size]]; ok {
			return word[:size], place
		}
	}
	return word[:1], MaxLetters + int(word[0])
}

// unitsOf is the places of the units of a word.
func unitsOf(places map[string]int, word string) []int {
	var l []int
	for word != "" {
		unit, place := firstUnit(places, word)
		l, word = append(l, place), word[len(unit):]
	}
	return l
}

// sorted is the positions of words in order.
func sorted(places map[string]int, words []string) []int {
	var l []int
	units := make([][]int, len(words))
	for i, word := range words {
		l, units[i] = append(l, i), unitsOf(places, word)
	}
	slices.SortFunc(l, func(i, j int) int { return cmp.Or(slices.Compare(units[i], units[j]), cmp.Compare(i, j)) })
	return l
}
