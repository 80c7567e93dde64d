package page

import (
	"iter"
	"slices"
	"strings"

	"masthead/api"
	"masthead/mark"
	"masthead/tmpl"
)

// all goes through parts, each one before its Inner. It calls nothing for what is nested, since that can be deeper than calls can be.
func all(l []Part) iter.Seq[Part] {
	return func(yield func(Part) bool) {
		for left := [][]Part{l}; len(left) > 0; {
			top := len(left) - 1
			if len(left[top]) == 0 {
				left = left[:top]
				continue
			}
			p := left[top][0]
			left[top] = left[top][1:]
			if !yield(p) {
				return
			}
			left = append(left, p.Inner)
		}
	}
}

// Shortcodes are the names of all shortcodes in parts, rising.
func Shortcodes(l []Part) []string {
	var names []string
	for p := range all(l) {
		if p.Name != "" {
			names = append(names, p.Name)
		}
	}
	slices.Sort(names)
	return slices.Compact(names)
}

// Missing are the names of the shortcodes for which a set has no template, rising.
func Missing(l []Part, set []tmpl.Source) []string {
	known := map[string]bool{}
	for _, source := range set {
		known[source.Name] = true
	}
	return slices.DeleteFunc(Shortcodes(l), func(name string) bool { return known[shortName(name)] })
}

// shortName is the name of the template of a shortcode.
func shortName(name string) string { return "short/" + name }

// Documents are those of all texts in parts, in order.
func Documents(l []Part) ([][]mark.Node, api.Errno) {
	var docs [][]mark.Node
	for p := range all(l) {
		if p.Name != "" {
			continue
		}
		doc, e := mark.Parse(p.Text)
		if e != api.OK {
			return nil, e
		}
		docs = append(docs, doc)
	}
	return docs, api.OK
}

// documentsOf are the documents of a body.
func documentsOf(body string) ([][]mark.Node, api.Errno) {
	parts, _, e := Split(body)
	if e != api.OK {
		return nil, e
	}
	return Documents(parts)
}

// Text is the plain string of a body, without the arguments of its shortcodes.
func Text(body string) (string, api.Errno) {
	docs, e := documentsOf(body)
	if e != api.OK {
		return "", e
	}
	return plain(docs), api.OK
}

// plain is the plain string of documents that have been parsed.
func plain(docs [][]mark.Node) string {
	var b strings.Builder
	for _, doc := range docs {
		s, _ := mark.Plain(doc)
		b.WriteString(s)
	}
	return b.String()
}
