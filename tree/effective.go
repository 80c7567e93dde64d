package tree

import (
	"cmp"
	"slices"

	"masthead/api"
	"masthead/conf"
)

// decision is what holds of sources on a day.
type decision struct {
	sources  []Source
	sections map[place][]int // all that are Sections
	settings []api.Value     // in effect
	hidden   []bool
}

// Effective is the settings in effect of each source, and whether it is hidden on a day.
func Effective(l []Source, languages []string, day int) ([]api.Value, []bool, Fault) {
	d, f := decide(l, languages, day)
	return d.settings, d.hidden, f
}

func decide(l []Source, languages []string, day int) (decision, Fault) {
	if f := CheckSources(l, languages); f.E != api.OK {
		return decision{}, f
	}
	if day < 0 || day > api.MaxDay {
		return decision{}, Fault{E: api.ErrRange}
	}
	d := decision{sources: l, sections: map[place][]int{}, settings: make([]api.Value, len(l)), hidden: make([]bool, len(l))}
	for i, s := range l {
		if s.Kind == Section {
			at := place{s.Language, s.Key}
			d.sections[at] = append(d.sections[at], i)
		}
	}
	errors := make([]api.Errno, len(l))
	for _, i := range fromAbove(l) {
		if s := l[i]; s.Kind != Other {
			d.settings[i], errors[i] = d.inherit(s)
			d.hidden[i] = Hidden(d.settings[i], day)
		}
	}
	for i, e := range errors {
		if e != api.OK {
			return decision{}, Fault{Path: l[i].Path, E: e}
		}
	}
	d.decideOthers()
	return d, Fault{}
}

// fromAbove are the numbers of sources in such an order that the sections above a page come before it.
func fromAbove(l []Source) []int {
	order := make([]int, len(l))
	for i := range l {
		order[i] = i
	}
	slices.SortStableFunc(order, func(i, j int) int {
		return cmp.Or(cmp.Compare(len(l[i].Key), len(l[j].Key)), cmp.Compare(l[j].Kind, l[i].Kind))
	})
	return order
}

// inherit merges the settings of a page with the cascades above it.
func (d *decision) inherit(s Source) (api.Value, api.Errno) {
	v, e := conf.Get(s.Settings, "") // in memory of its own
	merge := func(directory string) {
		for _, i := range d.sections[place{s.Language, directory}] {
			cascade, ok := setting(d.sources[i].Settings, "cascade", api.Table)
			if ok && !d.hidden[i] && e == api.OK {
				v, e = conf.Merge(v, cascade)
			}
		}
	}
	eachAbove(s.Key, merge)
	if s.Key == "" && s.Kind == Bundle {
		merge("") // Read makes no such Bundle, but a list of sources can have one
	}
	return v, e
}

// decideOthers hides the files of bundles that are hidden in all languages, or not there.
func (d *decision) decideOthers() {
	shown := map[string]bool{}
	for i, s := range d.sources {
		if s.Kind == Bundle && !d.hidden[i] {
			shown[s.Key] = true
		}
	}
	for i, s := range d.sources {
		if s.Kind == Other {
			d.settings[i], d.hidden[i] = api.Value{Kind: api.Table}, !shown[s.Key]
		}
	}
}
