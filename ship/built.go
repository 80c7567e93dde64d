package ship

import (
	"masthead/api"
	"masthead/build"
	"masthead/tree"
)

// built is what a build has made.
type built struct {
	job     build.Job
	outs    []api.Out
	moved   []Redirect
	indexed bool // the index is made when something is searched for the first time
	index   Index
	indexE  api.Errno
}

func newBuilt(job build.Job, b *build.Builder) built {
	made := built{job: job, outs: b.Outs()}
	for _, alias := range job.Moved {
		made.moved = append(made.moved, Redirect(alias))
	}
	return made
}

// indexOf is the index of the pages of a builder, which has built them.
func (m *built) indexOf(b *build.Builder) (Index, api.Errno) {
	if !m.indexed {
		m.indexed = true
		m.index, m.indexE = NewIndex(m.docsOf(b))
	}
	return m.index, m.indexE
}

// docsOf are the pages with their titles, which are those of their facts.
func (m *built) docsOf(b *build.Builder) []Doc {
	var l []Doc
	for _, body := range m.job.Bodies {
		content, _ := b.Content(body.Address)
		l = append(l, Doc{Address: body.Address, Title: m.titleOf(body.Address), Text: content.Plain})
	}
	return l
}

func (m *built) titleOf(address string) string {
	i, ok := find(m.job.Facts, tree.FactName(address), nameOf)
	if !ok {
		return ""
	}
	page := m.job.Facts[i].Value
	i, ok = find(page.Keys, "title", same)
	if !ok {
		return ""
	}
	return page.Items[i].Text
}

func nameOf(fact api.Named) string { return fact.Name }

func same(key string) string { return key }
