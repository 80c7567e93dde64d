package tree

import (
	"cmp"
	"slices"
	"strings"

	"masthead/api"
	"masthead/conf"
)

// pageSet has what no two pages of a site may both have.
type pageSet struct {
	addresses          map[string]bool
	keys, translations map[place]bool
}

func newPageSet() pageSet {
	return pageSet{addresses: map[string]bool{}, keys: map[place]bool{}, translations: map[place]bool{}}
}

// add adds a page; it is not ok if one that is there is in its way.
func (s pageSet) add(p Page) (ok bool) {
	key, translation := place{p.Language, p.Key}, place{p.Language, translationKey(p)}
	if s.addresses[p.Address] || s.keys[key] || s.translations[translation] {
		return false
	}
	s.addresses[p.Address], s.keys[key], s.translations[translation] = true, true, true
	return true
}

// CheckSite says whether a site is one that can be used.
func CheckSite(s Site) api.Errno {
	if !areLanguages(s.Languages) {
		return api.ErrName
	}
	if len(s.Pages) > MaxPages {
		return api.ErrLarge
	}
	if !slices.ContainsFunc(s.Pages, func(p Page) bool { return p.Key == "" && p.Language == s.Languages[0] }) {
		return api.ErrForm
	}
	before, sections := newPageSet(), firstSections(s)
	for i, p := range s.Pages {
		if e := checkPlace(s, i); e != api.OK {
			return e
		}
		if e := conf.Check(p.Settings); e != api.OK {
			return e
		}
		if !before.add(p) {
			return api.ErrTwice
		}
		if p.Kind < Single || p.Kind > Section || p.Key == "" && p.Kind != Section {
			return api.ErrForm
		}
		if p.Key != "" && !hasSection(s, sections, p) {
			return api.ErrNone
		}
		if e := checkFiles(p); e != api.OK {
			return e
		}
	}
	return api.OK
}

// firstSections are the numbers of the first Section at each place.
func firstSections(s Site) map[place]int {
	sections := map[place]int{}
	for i, p := range s.Pages {
		at := place{p.Language, p.Key}
		if _, ok := sections[at]; !ok && p.Kind == Section {
			sections[at] = i
		}
	}
	return sections
}

// checkPlace checks where a page is: its language, key, address, and that it is after the one before.
func checkPlace(s Site, i int) api.Errno {
	p := s.Pages[i]
	language := slices.Index(s.Languages, p.Language)
	switch {
	case language < 0:
		return api.ErrName
	case p.Key != "" && !isPath(p.Key), !isAddress(p.Address), p.Key == "" && p.Address != rootAddress(p.Language, s.Languages[0]):
		return api.ErrPath
	case i == 0:
		return api.OK
	}
	before := s.Pages[i-1]
	if cmp.Or(cmp.Compare(slices.Index(s.Languages, before.Language), language), strings.Compare(before.Address, p.Address)) >= 0 {
		return api.ErrOrder
	}
	return api.OK
}

// hasSection says whether the Section of a page is there, and the address of the page is that of the Section with one more part.
// The Section may come later, so its own address need not be one.
func hasSection(s Site, sections map[place]int, p Page) bool {
	i, ok := sections[place{p.Language, directoryOf(p.Key)}]
	if !ok {
		return false
	}
	rest, ok := strings.CutPrefix(p.Address, s.Pages[i].Address)
	part, ended := strings.CutSuffix(rest, "/")
	return ok && ended && isPart(part)
}

func checkFiles(p Page) api.Errno {
	for i, file := range p.Files {
		switch {
		case p.Kind != Bundle:
			return api.ErrForm
		case !isPath(file) || !isBelow(file, p.Key):
			return api.ErrPath
		case i > 0 && file <= p.Files[i-1]:
			return api.ErrOrder
		}
	}
	return api.OK
}
