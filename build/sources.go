package build

import (
	"slices"
	"strings"

	"masthead/api"
	"masthead/asset"
	"masthead/conf"
	"masthead/lang"
	"masthead/tmpl"
)

// The first parts of the paths of files, and how their names end.
const (
	contentFolder  = "content/"
	templateFolder = "template/"
	assetFolder    = "asset/"
	stringFolder   = "string/"
	templateEnd    = ".html"
	stringEnd      = ".set"
)

// filesIn are the files in a folder, in the order of their paths, which are counted from the folder on.
func filesIn(folder string, files []api.File) []api.File {
	var l []api.File
	for _, file := range files {
		if name, ok := strings.CutPrefix(file.Path, folder); ok {
			l = append(l, api.File{Path: name, Body: file.Body})
		}
	}
	slices.SortStableFunc(l, byPath)
	return l
}

func byPath(a, b api.File) int { return strings.Compare(a.Path, b.Path) }

// Templates is the set of templates in files.
func Templates(files []api.File) ([]tmpl.Source, Fault) {
	var set []tmpl.Source
	l := filesIn(templateFolder, files)
	for i, file := range l {
		name, ok := strings.CutSuffix(file.Path, templateEnd)
		if i > 0 && l[i-1].Path == file.Path {
			return nil, Fault{templateFolder + file.Path, api.ErrTwice}
		}
		if !ok || !isTemplateName(name) {
			return nil, Fault{templateFolder + file.Path, api.ErrPath}
		}
		set = append(set, tmpl.Source{Name: name, Text: file.Body})
	}
	slices.SortFunc(set, func(a, b tmpl.Source) int { return strings.Compare(a.Name, b.Name) })
	fault := tmpl.Check(set)
	if fault.E == api.OK {
		return set, Fault{}
	}
	if fault.Name == "" {
		return nil, Fault{E: fault.E}
	}
	return nil, Fault{templateFolder + fault.Name + templateEnd, fault.E}
}

func isTemplateName(s string) bool { return tmpl.Check([]tmpl.Source{{Name: s}}).E == api.OK }

// Strings are the languages in files.
func Strings(files []api.File) ([]lang.Language, Fault) {
	var languages []lang.Language
	l := filesIn(stringFolder, files)
	for i, file := range l {
		if i > 0 && l[i-1].Path == file.Path {
			return nil, Fault{stringFolder + file.Path, api.ErrTwice}
		}
		language, e := readLanguage(file)
		if e != api.OK {
			return nil, Fault{stringFolder + file.Path, e}
		}
		languages = append(languages, language)
	}
	if len(languages) > 0 {
		if e := lang.CheckChain(languages); e != api.OK {
			return nil, Fault{E: e}
		}
	}
	return languages, Fault{}
}

func readLanguage(file api.File) (lang.Language, api.Errno) {
	name, ok := strings.CutSuffix(file.Path, stringEnd)
	if !ok || !isLanguage(name) {
		return lang.Language{}, api.ErrPath
	}
	v, _, e := conf.Parse(file.Body)
	if e != api.OK {
		return lang.Language{}, e
	}
	return lang.ReadLanguage(name, v)
}

// Assets are the facts and the outputs of the assets in files.
func Assets(files []api.File, small bool) ([]api.Named, []api.Out, Fault) {
	made, fault := asset.Process(filesIn(assetFolder, files), small)
	if fault.E != api.OK {
		return nil, nil, Fault{inFolder(assetFolder, fault.Path), fault.E}
	}
	var facts []api.Named
	var outs []api.Out
	names := map[string]bool{}
	for _, m := range made {
		if names[m.Name] {
			return nil, nil, Fault{assetFolder + m.Path, api.ErrTwice}
		}
		names[m.Name] = true
		value := tableOf(field{"path", textOf(m.Name)}, field{"url", textOf("/" + m.Name)})
		facts = append(facts, api.Named{Name: "asset:" + m.Path, Value: value})
		outs = append(outs, api.Out{Path: m.Name, Body: m.Body})
	}
	sortOuts(outs)
	return facts, outs, Fault{}
}

func sortOuts(l []api.Out) {
	slices.SortFunc(l, func(a, b api.Out) int { return strings.Compare(a.Path, b.Path) })
}

// inFolder is a path in a folder; empty, if there is none.
func inFolder(folder, path string) string {
	if path == "" {
		return ""
	}
	return folder + path
}
