package build

import (
	"slices"
	"strings"

	"masthead/api"
	"masthead/lang"
	"masthead/tree"
)

const settingsFile = "site.set"

// loader makes a job of files, step by step.
type loader struct {
	files    []api.File // in the order of their paths
	day      int
	settings Settings
	site     tree.Site
	outputs
	job Job
}

// Load makes the job of the files of a site on a day.
func Load(files []api.File, day int) (Job, Fault) {
	l := &loader{day: day}
	l.files = slices.SortedStableFunc(slices.Values(files), byPath)
	steps := []func() Fault{l.checkFiles, l.readSettings, l.readTemplates, l.readStrings, l.readAssets, l.readContent, l.addPages, l.addTerms, l.addMenus, l.finish}
	for _, step := range steps {
		if fault := step(); fault.E != api.OK {
			return Job{}, fault
		}
	}
	return l.job, Fault{}
}

func (l *loader) checkFiles() Fault {
	if len(l.files) > api.MaxFiles {
		return Fault{E: api.ErrLarge}
	}
	for i, file := range l.files {
		e := api.OK
		switch {
		case !isSitePath(file.Path):
			e = api.ErrPath
		case i+1 < len(l.files) && l.files[i+1].Path == file.Path:
			e = api.ErrTwice
		case len(file.Body) > api.MaxBody:
			e = api.ErrLarge
		}
		if e != api.OK {
			return Fault{file.Path, e}
		}
	}
	if !slices.ContainsFunc(l.files, isSettingsFile) {
		return Fault{settingsFile, api.ErrNone}
	}
	if l.day < 0 || l.day > api.MaxDay {
		return Fault{E: api.ErrRange}
	}
	return Fault{}
}

func isSettingsFile(file api.File) bool { return file.Path == settingsFile }

// isSitePath says whether a path is one that a file of a site can have.
func isSitePath(path string) bool {
	if tree.CheckPath(path) != api.OK {
		return false
	}
	for _, folder := range []string{contentFolder, templateFolder, assetFolder, stringFolder} {
		if strings.HasPrefix(path, folder) {
			return true
		}
	}
	return path == settingsFile
}

func (l *loader) readSettings() Fault {
	i := slices.IndexFunc(l.files, isSettingsFile)
	s, e := ReadSettings(l.files[i].Body)
	if e != api.OK {
		return Fault{settingsFile, e}
	}
	l.settings = s
	site := tableOf(
		field{"base", textOf(s.Base)},
		field{"languages", listOf(s.Languages, textOf)},
		field{"settings", s.All},
		field{"title", textOf(s.Title)},
	)
	l.facts = append(l.facts, api.Named{Name: "day", Value: api.Value{Kind: api.Day, Int: l.day}}, api.Named{Name: "site", Value: site})
	return Fault{}
}

func (l *loader) readTemplates() (fault Fault) {
	l.job.Set, fault = Templates(l.files)
	return fault
}

func (l *loader) readStrings() Fault {
	languages, fault := Strings(l.files)
	if len(languages) > 0 {
		facts, _ := lang.Facts(languages)
		l.facts = append(l.facts, facts...)
	}
	return fault
}

func (l *loader) readAssets() Fault {
	facts, outs, fault := Assets(l.files, l.settings.Small)
	l.facts, l.job.Copies = append(l.facts, facts...), outs
	return fault
}

// readContent makes the site of the pages, and adds what it has.
func (l *loader) readContent() Fault {
	files := filesIn(contentFolder, l.files)
	sources, fault := tree.Read(files, l.settings.Languages)
	if fault.E == api.OK {
		l.site, fault = tree.Publish(sources, l.settings.Languages, l.day)
	}
	if fault.E == api.OK {
		l.job.Moved, fault = tree.Aliases(l.site)
	}
	if fault.E != api.OK {
		return Fault{inFolder(contentFolder, fault.Path), fault.E}
	}
	facts, _ := tree.Facts(l.site)
	l.facts = append(l.facts, facts...)
	for _, p := range l.site.Pages {
		l.job.Bodies = append(l.job.Bodies, Body{Address: p.Address, Text: p.Rest, Words: l.settings.Summary})
	}
	slices.SortFunc(l.job.Bodies, func(a, b Body) int { return strings.Compare(a.Address, b.Address) })
	l.addCopies(files)
	return Fault{}
}

// addCopies adds the files of bundles.
func (l *loader) addCopies(files []api.File) {
	bodies := map[string]string{}
	for _, file := range files {
		bodies[file.Path] = file.Body
	}
	all, _ := tree.Outputs(l.site)
	for _, out := range all {
		if out.File != "" {
			l.job.Copies = append(l.job.Copies, api.Out{Path: out.Path, Body: bodies[out.File]})
		}
	}
	sortOuts(l.job.Copies)
}

func (l *loader) addPages() Fault {
	return l.take(PageOutputs(l.site, l.settings.Page))
}

// addTerms adds the outputs of terms, if there are templates for them.
func (l *loader) addTerms() Fault {
	templates := 0
	for _, source := range l.job.Set {
		if source.Name == layoutFolder+"term" || source.Name == layoutFolder+"terms" {
			templates++
		}
	}
	if templates < 2 {
		return Fault{}
	}
	for _, kind := range l.settings.Terms {
		if fault := l.take(TermOutputs(l.site, kind)); fault.E != api.OK {
			return fault
		}
	}
	return Fault{}
}

// take takes facts and outputs that have been made.
func (l *loader) take(facts []api.Named, wants []Want, e api.Errno) Fault {
	l.facts, l.wants = append(l.facts, facts...), append(l.wants, wants...)
	return Fault{E: e}
}

func (l *loader) addMenus() Fault {
	for _, language := range l.settings.Languages {
		for _, name := range l.settings.Menus {
			fact, e := MenuFact(l.site, language, name)
			if e != api.OK {
				return Fault{E: e}
			}
			l.facts = append(l.facts, fact)
		}
	}
	return Fault{}
}

// finish puts the job in order, and checks it.
func (l *loader) finish() Fault {
	l.sort()
	for i, want := range l.wants {
		if i > 0 && want.Path == l.wants[i-1].Path {
			return Fault{want.Path, api.ErrTwice}
		}
	}
	l.job.Facts, l.job.Wants = l.facts, l.wants
	return CheckJob(l.job)
}
