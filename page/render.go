package page

import (
	"masthead/api"
	"masthead/mark"
)

// Render makes the content of a page.
func Render(h Host, body string, words int) (Content, api.Errno) {
	parts, docs, e := readBody(h, body, words)
	if e != api.OK {
		return Content{}, e
	}
	c := Content{Plain: plain(docs), Contents: contents(docs), Words: countWords(docs)}
	page := newWriter(h, c.Contents)
	page.setHooks()
	page.docs = docs
	page.parts(parts)
	if page.e != api.OK {
		return Content{}, page.e
	}
	summary := newWriter(h, c.Contents)
	summary.nodes(start(parts, docs, words))
	if len(page.out) > api.MaxOut || summary.e != api.OK {
		return Content{}, api.ErrLarge
	}
	c.HTML, c.Summary = string(page.out), string(summary.out)
	c.Reads, c.Broken = page.reads, page.broken
	return c, api.OK
}

// readBody reads a body that can be rendered: its parts, and the documents in them.
func readBody(h Host, body string, words int) ([]Part, [][]mark.Node, api.Errno) {
	if !isAddress(h.Address) {
		return nil, nil, api.ErrPath
	}
	if words < 0 || words > api.MaxBody {
		return nil, nil, api.ErrRange
	}
	parts, _, e := Split(body)
	if e != api.OK {
		return nil, nil, e
	}
	if len(Missing(parts, h.Set)) > 0 {
		return nil, nil, api.ErrNone
	}
	docs, e := Documents(parts)
	return parts, docs, e
}

func countWords(docs [][]mark.Node) int {
	words := 0
	for _, doc := range docs {
		n, _ := mark.Words(doc)
		words += n
	}
	return words
}

// start is the beginning of the first part, if that is a text: its first blocks, as many as have so many words.
func start(parts []Part, docs [][]mark.Node, words int) []mark.Node {
	if len(parts) == 0 || parts[0].Name != "" {
		return nil
	}
	blocks, _, _ := mark.Summary(docs[0], words)
	return blocks
}
