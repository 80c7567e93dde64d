package page

import (
	"strconv"
	"strings"

	"masthead/api"
	"masthead/mark"
)

// Headings is the table of contents of a body.
func Headings(body string) ([]mark.Entry, api.Errno) {
	docs, e := documentsOf(body)
	if e != api.OK {
		return nil, e
	}
	return contents(docs), api.OK
}

// contents is the table of contents of documents that have been parsed. They can be too large to be one document for mark, so the ids are made anew.
func contents(docs [][]mark.Node) []mark.Entry {
	var l []mark.Entry
	last := map[string]int{} // by id: the last number added to it, 1 for none
	for _, doc := range docs {
		entries, _ := mark.Contents(doc)
		for _, entry := range entries {
			entry.Id = newId(entry.Text, last)
			l = append(l, entry)
		}
	}
	return l
}

// newId is the id of a Heading after others.
func newId(text string, last map[string]int) string {
	id := mark.Slug(text)
	if id == "" {
		id = "section"
	}
	// Ids do not go away: a number that was taken once is not tried again.
	for first := id; last[id] > 0; {
		last[first]++
		id = first + "-" + strconv.Itoa(last[first])
	}
	last[id] = 1
	return id
}

// Section is the part of a content's HTML from the Heading with an id to the next one that does not belong to it.
func Section(c Content, id string) (string, bool) {
	for i, entry := range c.Contents {
		if entry.Id == id {
			return cutSection(c.HTML, entry, c.Contents[i+1:])
		}
	}
	return "", false
}

// cutSection is the part of HTML that belongs to an entry, others being after it.
func cutSection(html string, entry mark.Entry, after []mark.Entry) (string, bool) {
	from := strings.Index(html, startTag(entry))
	if from < 0 {
		return "", false
	}
	html = html[from:]
	for _, next := range after {
		if next.Level <= entry.Level {
			first := len(startTag(entry))
			to := strings.Index(html[first:], startTag(next))
			if to < 0 {
				return "", false
			}
			return html[:first+to], true
		}
	}
	return html, true
}

// startTag is how the HTML of a Heading begins.
func startTag(entry mark.Entry) string {
	return "<h" + strconv.Itoa(entry.Level) + ` id="` + entry.Id + `">`
}
