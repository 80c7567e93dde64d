package tree

import (
	"slices"
	"strings"

	"masthead/api"
	"masthead/conf"
)

// Read makes sources of files.
func Read(files []api.File, languages []string) ([]Source, Fault) {
	if !areLanguages(languages) {
		return nil, Fault{E: api.ErrName}
	}
	if len(files) > api.MaxFiles {
		return nil, Fault{E: api.ErrLarge}
	}
	files = slices.Clone(files)
	slices.SortStableFunc(files, func(a, b api.File) int { return strings.Compare(a.Path, b.Path) })
	l := make([]Source, len(files))
	bundles := map[string]bool{}
	for i, file := range files {
		l[i] = identify(file.Path, languages)
		if l[i].Kind == Bundle && l[i].Key != "" {
			bundles[l[i].Key] = true
		}
	}
	for i, file := range files {
		e := checkFilePath(file.Path)
		if e == api.OK && i > 0 && file.Path == files[i-1].Path {
			e = api.ErrTwice
		}
		var pos conf.Pos
		if e == api.OK {
			pos, e = l[i].read(file.Body, bundles)
		}
		if e != api.OK {
			return nil, Fault{Path: file.Path, Pos: pos, E: e}
		}
	}
	return l, Fault{}
}

func checkFilePath(path string) api.Errno {
	switch {
	case !isPath(path):
		return api.ErrPath
	case strings.Count(path, "/") >= api.MaxDeep:
		return api.ErrDeep
	}
	return api.OK
}

// identify is a source with what its path says: of an Other that is not yet its Key.
func identify(path string, languages []string) Source {
	directory, last := cutLast(path)
	name, language, ok := cutPage(last, languages)
	switch {
	case !ok:
		return Source{Path: path, Kind: Other}
	case name == "_index":
		return Source{Path: path, Key: directory, Language: language, Kind: Section}
	case name == "index":
		return Source{Path: path, Key: directory, Language: language, Kind: Bundle}
	}
	return Source{Path: path, Key: join(directory, name), Language: language, Kind: Single}
}

// cutPage divides the last part of the path of a page; it is not ok for other files.
func cutPage(last string, languages []string) (name, language string, ok bool) {
	name, ok = strings.CutSuffix(last, ".page")
	language = languages[0]
	if before, after, found := strings.Cut(name, "."); found {
		name, language = before, after
	}
	return name, language, ok && name != "" && slices.Contains(languages, language)
}

// read completes a source whose path has been checked; bundles are the keys of all bundles.
func (s *Source) read(body string, bundles map[string]bool) (pos conf.Pos, e api.Errno) {
	owner, inOther := "", false
	eachAbove(s.Path, func(directory string) {
		if bundles[directory] {
			owner = directory
			inOther = inOther || s.Kind != Bundle || s.Key != directory
		}
	})
	if s.Kind == Other {
		if owner == "" {
			return pos, api.ErrForm
		}
		if len(body) > api.MaxBody {
			return pos, api.ErrLarge
		}
		s.Key, s.Settings, s.Rest = owner, api.Value{Kind: api.Table}, body
		return pos, api.OK
	}
	if inOther || s.Kind == Bundle && s.Key == "" {
		return pos, api.ErrForm
	}
	s.Settings, s.Rest, pos, e = conf.Front(body)
	if e != api.OK {
		return pos, e
	}
	return pos, checkMeaning(*s)
}

// CheckSources finds what is wrong with a list of sources.
func CheckSources(l []Source, languages []string) Fault {
	if !areLanguages(languages) {
		return Fault{E: api.ErrName}
	}
	if len(l) > api.MaxFiles {
		return Fault{E: api.ErrLarge}
	}
	for i, s := range l {
		e := checkFilePath(s.Path)
		if e == api.OK && i > 0 && s.Path <= l[i-1].Path {
			e = api.ErrOrder
		}
		if e == api.OK {
			e = checkSource(s, languages)
		}
		if e != api.OK {
			return Fault{Path: s.Path, E: e}
		}
	}
	return Fault{}
}

// checkSource checks a source whose path has been checked.
func checkSource(s Source, languages []string) api.Errno {
	want := identify(s.Path, languages)
	if s.Kind != want.Kind || s.Language != want.Language {
		return api.ErrForm
	}
	if s.Kind != Other && s.Key != want.Key || s.Kind == Other && !isBelow(s.Path, s.Key) {
		return api.ErrForm
	}
	if s.Kind == Other && !isEmptyTable(s.Settings) {
		return api.ErrForm
	}
	if e := conf.Check(s.Settings); e != api.OK {
		return e
	}
	if s.Settings.Kind != api.Table {
		return api.ErrKind
	}
	return checkMeaning(s)
}

func isEmptyTable(v api.Value) bool {
	return v.Kind == api.Table && len(v.Keys) == 0 && len(v.Items) == 0
}
