package ship

import (
	"cmp"
	"math/bits"
	"slices"
	"strings"

	"masthead/api"
)

// Search is the documents of an index that have words of a query, the best ones first.
func Search(x Index, query string, most int) ([]Hit, api.Errno) {
	if _, e := IndexText(x); e != api.OK {
		return nil, e
	}
	return search(x, query, most)
}

// search searches an index that has been checked.
func search(x Index, query string, most int) ([]Hit, api.Errno) {
	if len(query) > api.MaxPath {
		return nil, api.ErrLarge
	}
	if most < 0 || most > MaxHits {
		return nil, api.ErrRange
	}
	var hits []Hit
	for i, score := range scores(x, query) {
		if score > 0 {
			hits = append(hits, Hit{Address: x.Docs[i].Address, Score: int(score)})
		}
	}
	slices.SortFunc(hits, func(a, b Hit) int {
		return cmp.Or(cmp.Compare(b.Score, a.Score), strings.Compare(a.Address, b.Address))
	})
	return hits[:min(most, len(hits))], api.OK
}

// scores are those of all documents for a query.
func scores(x Index, query string) []int64 {
	scores := make([]int64, len(x.Docs))
	before := map[string]bool{}
	for _, word := range Words(query) {
		stem := Stem(word)
		i, ok := find(x.Terms, stem, wordOf)
		if !ok || before[stem] {
			continue
		}
		before[stem] = true
		t := x.Terms[i]
		weight := int64(bits.Len(uint(len(x.Docs) / len(t.Docs))))
		for n, doc := range t.Docs {
			scores[doc] += int64(t.Many[n]) * 1000 * weight / int64(x.Sizes[doc]+10)
		}
	}
	return scores
}

func wordOf(t Term) string { return t.Word }
