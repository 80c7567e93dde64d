package ship

import (
	"slices"
	"strconv"
	"strings"

	"masthead/api"
)

const (
	titleTimes = 3 // how often a word of a title counts
	docStart   = "doc "
	termStart  = "term "
)

// NewIndex is an index of documents.
func NewIndex(l []Doc) (Index, api.Errno) {
	if e := checkDocs(l, fits); e != api.OK {
		return Index{}, e
	}
	x := &indexer{places: map[string]int{}}
	for _, doc := range l {
		x.add(doc)
	}
	slices.SortFunc(x.Terms, func(a, b Term) int { return strings.Compare(a.Word, b.Word) })
	if _, e := IndexText(x.Index); e != api.OK {
		return Index{}, e
	}
	return x.Index, api.OK
}

// checkDocs checks documents; own is an error that each one can have besides.
func checkDocs(l []Doc, own func(Doc) api.Errno) api.Errno {
	if len(l) > MaxDocs {
		return api.ErrLarge
	}
	for i, doc := range l {
		switch {
		case !isAddress(doc.Address):
			return api.ErrPath
		case i > 0 && doc.Address <= l[i-1].Address:
			return api.ErrOrder
		case hasControl(doc.Title):
			return api.ErrByte
		}
		if e := own(doc); e != api.OK {
			return e
		}
	}
	return api.OK
}

func fits(doc Doc) api.Errno {
	if len(doc.Title) > api.MaxOut || len(doc.Text) > api.MaxOut-len(doc.Title) {
		return api.ErrLarge
	}
	return api.OK
}

func hasNoText(doc Doc) api.Errno {
	if doc.Text != "" {
		return api.ErrForm
	}
	return api.OK
}

// indexer makes an index.
type indexer struct {
	Index
	places map[string]int // of the terms, by their words
}

func (x *indexer) add(doc Doc) {
	number := len(x.Docs)
	title, text := Words(doc.Title), Words(doc.Text)
	x.Docs = append(x.Docs, Doc{Address: doc.Address, Title: doc.Title})
	x.Sizes = append(x.Sizes, len(title)+len(text))
	for _, word := range title {
		x.count(number, word, titleTimes)
	}
	for _, word := range text {
		x.count(number, word, 1)
	}
}

// count notes that a document has a word some more times.
func (x *indexer) count(doc int, word string, times int) {
	stem := Stem(word)
	place, ok := x.places[stem]
	if !ok {
		place = len(x.Terms)
		x.places[stem] = place
		x.Terms = append(x.Terms, Term{Word: stem})
	}
	t := &x.Terms[place]
	if last := len(t.Docs) - 1; last < 0 || t.Docs[last] != doc {
		t.Docs, t.Many = append(t.Docs, doc), append(t.Many, 0)
	}
	t.Many[len(t.Many)-1] += times
}

// IndexText is an index as a string.
func IndexText(x Index) (string, api.Errno) {
	if e := checkIndex(x); e != api.OK {
		return "", e
	}
	var b strings.Builder
	for i, doc := range x.Docs {
		b.WriteString(docStart + doc.Address + " " + strconv.Itoa(x.Sizes[i]) + " " + doc.Title + "\n")
	}
	for _, t := range x.Terms {
		b.WriteString(termStart + t.Word)
		for i, doc := range t.Docs {
			b.WriteString(" " + strconv.Itoa(doc) + ":" + strconv.Itoa(t.Many[i]))
		}
		b.WriteString("\n")
		if b.Len() > MaxIndex {
			break
		}
	}
	if b.Len() > MaxIndex {
		return "", api.ErrLarge
	}
	return b.String(), api.OK
}

// checkIndex looks for all errors of an index but its length.
func checkIndex(x Index) api.Errno {
	if e := checkDocs(x.Docs, hasNoText); e != api.OK {
		return e
	}
	if len(x.Sizes) != len(x.Docs) {
		return api.ErrForm
	}
	for _, size := range x.Sizes {
		if size < 0 || size > api.MaxOut {
			return api.ErrRange
		}
	}
	for i, t := range x.Terms {
		if !slices.Equal(Words(t.Word), []string{t.Word}) {
			return api.ErrForm
		}
		if i > 0 && t.Word <= x.Terms[i-1].Word {
			return api.ErrOrder
		}
		if e := checkTerm(t, len(x.Docs)); e != api.OK {
			return e
		}
	}
	return api.OK
}

// checkTerm checks the documents of a term, where there are so many.
func checkTerm(t Term, docs int) api.Errno {
	if len(t.Docs) == 0 || len(t.Docs) != len(t.Many) {
		return api.ErrForm
	}
	for i, doc := range t.Docs {
		switch {
		case doc < 0 || doc >= docs:
			return api.ErrRange
		case i > 0 && doc <= t.Docs[i-1]:
			return api.ErrOrder
		case t.Many[i] < 1 || t.Many[i] > titleTimes*api.MaxOut:
			return api.ErrRange
		}
	}
	return api.OK
}
