package tree

import (
	"cmp"
	"slices"
	"strings"

	"masthead/api"
)

// draft is a page before it has been checked.
type draft struct {
	Page
	e api.Errno // of its settings
}

// drafts are the pages of a site that is being made.
type drafts struct {
	decision
	pages []draft
	first map[place]int // the number of the first Section there
}

// Publish makes a site of the sources that are not hidden on a day.
func Publish(l []Source, languages []string, day int) (Site, Fault) {
	d, f := decide(l, languages, day)
	if f.E != api.OK {
		return Site{}, f
	}
	made := drafts{decision: d, first: map[place]int{}}
	made.addShown()
	made.addSection(languages[0], "")
	for _, p := range made.pages {
		made.addSection(p.Language, "")
		eachAbove(p.Key, func(directory string) { made.addSection(p.Language, directory) })
	}
	for i, p := range made.pages {
		made.pages[i].Address = made.address(p, languages[0])
	}
	slices.SortFunc(made.pages, func(a, b draft) int {
		return cmp.Or(cmp.Compare(slices.Index(languages, a.Language), slices.Index(languages, b.Language)), strings.Compare(a.Address, b.Address), strings.Compare(a.Path, b.Path), strings.Compare(a.Key, b.Key))
	})
	site := Site{Languages: slices.Clone(languages)}
	before, outputs := newPageSet(), newPathSet()
	for _, p := range made.pages {
		if e := checkDraft(p, before, outputs); e != api.OK {
			return Site{}, Fault{Path: cmp.Or(p.Path, p.Key), E: e}
		}
		site.Pages = append(site.Pages, p.Page)
	}
	return site, Fault{}
}

// addShown adds the pages that are not hidden.
func (m *drafts) addShown() {
	files := map[string][]string{}
	for _, s := range m.sources {
		if s.Kind == Other {
			files[s.Key] = append(files[s.Key], s.Path)
		}
	}
	for i, s := range m.sources {
		if m.hidden[i] || s.Kind == Other {
			continue
		}
		p := draft{Page: Page{Path: s.Path, Key: s.Key, Language: s.Language, Kind: s.Kind, Settings: m.settings[i], Rest: s.Rest}}
		if s.Kind == Bundle {
			p.Files = slices.Clone(files[s.Key])
		}
		m.add(p)
	}
}

func (m *drafts) add(p draft) {
	at := place{p.Language, p.Key}
	if _, ok := m.first[at]; !ok && p.Kind == Section {
		m.first[at] = len(m.pages)
	}
	m.pages = append(m.pages, p)
}

// addSection adds a Section, if there is none with this key.
func (m *drafts) addSection(language, key string) {
	if _, ok := m.first[place{language, key}]; ok {
		return
	}
	p := draft{Page: Page{Key: key, Language: language, Kind: Section}}
	p.Settings, p.e = m.inherit(Source{Key: key, Language: language, Kind: Section, Settings: api.Value{Kind: api.Table}})
	m.add(p)
}

// address is that of a page whose Sections above are all there.
func (m *drafts) address(p draft, first string) string {
	if p.Key == "" && p.Kind == Section {
		return rootAddress(p.Language, first)
	}
	directory, part := cutLast(p.Key)
	if slug, ok := setting(p.Settings, "slug", api.String); ok {
		part = slug.Text
	}
	parent := m.pages[m.first[place{p.Language, directory}]]
	return m.address(parent, first) + part + "/"
}

// rootAddress is the address of the Section with the empty key in a language.
func rootAddress(language, first string) string {
	if language == first {
		return "/"
	}
	return "/" + language + "/"
}

// checkDraft checks a page, and adds it to those before it.
func checkDraft(p draft, before pageSet, outputs pathSet) api.Errno {
	if p.e != api.OK {
		return p.e
	}
	if !isAddress(p.Address) {
		return api.ErrPath
	}
	l := outputsOf(p.Page, 0)
	if slices.ContainsFunc(l, func(o Output) bool { return !isPath(o.Path) }) {
		return api.ErrPath
	}
	if !before.add(p.Page) {
		return api.ErrTwice
	}
	for _, o := range l {
		if outputs.meets(o.Path) {
			return api.ErrTwice
		}
		outputs.add(o.Path)
	}
	return api.OK
}
