package ship_test

import (
	"fmt"
	"math/rand"
	"slices"
	"strconv"
	"strings"
	"testing"

	"masthead/api"
	"masthead/ship"
)

// docs are documents of addresses, titles and texts, in turn.
func docs(l ...string) []ship.Doc {
	var out []ship.Doc
	for i := 0; i < len(l); i += 3 {
		out = append(out, ship.Doc{Address: l[i], Title: l[i+1], Text: l[i+2]})
	}
	return out
}

// manyDocs are so many documents.
func manyDocs(n int) []ship.Doc {
	var l []ship.Doc
	for i := range n {
		l = append(l, ship.Doc{Address: fmt.Sprintf("/d%06d", i)})
	}
	return l
}

// P10.9: an index has the stems of all words, those of titles three times.
func TestNewIndex(t *testing.T) {
	x, e := ship.NewIndex(docs("/", "", "", "/a", "The cats' Cat", "a cat, running\nand RUNNING\x00cats "+wide(31), "/b/", "é "+wide(31), "Running 12 b-b"))
	expect(t, "an index", x, e, ship.Index{
		Docs:  docs("/", "", "", "/a", "The cats' Cat", "", "/b/", "é "+wide(31), ""),
		Sizes: []int{0, 9, 5},
		Terms: []ship.Term{
			{Word: "12", Docs: []int{2}, Many: []int{1}}, {Word: "a", Docs: []int{1}, Many: []int{1}}, {Word: "and", Docs: []int{1}, Many: []int{1}},
			{Word: "b", Docs: []int{2}, Many: []int{2}}, {Word: "cat", Docs: []int{1}, Many: []int{8}}, {Word: "runn", Docs: []int{1, 2}, Many: []int{2, 1}},
			{Word: "the", Docs: []int{1}, Many: []int{3}}, {Word: "é", Docs: []int{2}, Many: []int{3}},
		},
	}, api.OK)
	x, e = ship.NewIndex(nil)
	expect(t, "an empty index", x, e, ship.Index{}, api.OK)
}

// P10.9: errors of documents.
func TestNewIndexErrors(t *testing.T) {
	large := strings.Repeat(".", api.MaxOut)
	var filling []ship.Doc // documents with more different words than there is room for
	for i := range 40 {
		var b strings.Builder
		for k := range 1000 {
			fmt.Fprintf(&b, "%d ", 100_000+i*1000+k)
		}
		filling = append(filling, ship.Doc{Address: fmt.Sprintf("/d%d", 10+i), Text: b.String()})
	}
	for name, c := range map[string]struct {
		l    []ship.Doc
		want api.Errno
	}{
		"many":                     {manyDocs(ship.MaxDocs), api.OK},
		"too many":                 {manyDocs(ship.MaxDocs + 1), api.ErrLarge},
		"too many, and no address": {make([]ship.Doc, ship.MaxDocs+1), api.ErrLarge},
		"an empty address":         {docs("", "", ""), api.ErrPath},
		"no address":               {docs("a", "", ""), api.ErrPath},
		"an address with a blank":  {docs("/a b", "", ""), api.ErrPath},
		"an index":                 {docs("/index.html", "", ""), api.OK},
		"disorder":                 {docs("/b", "", "", "/a", "", ""), api.ErrOrder},
		"twice":                    {docs("/b", "", "", "/b", "", ""), api.ErrOrder},
		"the slash is another one": {docs("/b", "", "", "/b/", "", ""), api.OK},
		"path before order":        {docs("/b", "", "", "a", "", ""), api.ErrPath},
		"order before byte":        {docs("/b", "", "", "/a", "\n", ""), api.ErrOrder},
		"a line feed":              {docs("/b", "a\n", ""), api.ErrByte},
		"a byte 31":                {docs("/b", "\x1f", ""), api.ErrByte},
		"bytes in titles":          {docs("/b", "  \x7f\xff", ""), api.OK},
		"bytes in texts":           {docs("/b", "", "\n\x00"), api.OK},
		"byte before large":        {docs("/b", "\n", large+"."), api.ErrByte},
		"a large text":             {docs("/b", "", large), api.OK},
		"a larger text":            {docs("/b", "", large+"."), api.ErrLarge},
		"a large title and text":   {docs("/b", large[2:], ".."), api.OK},
		"a larger title and text":  {docs("/b", large[2:], "..."), api.ErrLarge},
		"a larger title":           {docs("/b", large+".", ""), api.ErrLarge},
		"large before next path":   {docs("/b", "", large+".", "a", "", ""), api.ErrLarge},
		"many words":               {filling[:23], api.OK},
		"too many words":           {filling, api.ErrLarge},
		"too many titles":          {docs("/a", large, "", "/b", large, ""), api.ErrLarge},
		"many titles":              {docs("/a", large, "", "/b", large[30:], ""), api.OK},
	} {
		x, e := ship.NewIndex(c.l)
		if e != c.want || e != api.OK && show(x) != show(ship.Index{}) {
			t.Errorf("%s: error %d, not %d: %s", name, e, c.want, short(show(x)))
		}
	}
}

// some is an index with two documents and three terms.
func some() ship.Index {
	return ship.Index{
		Docs:  docs("/a", "A b", "", "/b/", "", ""),
		Sizes: []int{7, 0},
		Terms: []ship.Term{{Word: "1", Docs: []int{1}, Many: []int{600_000}}, {Word: "cat", Docs: []int{0, 1}, Many: []int{1, 12}}, {Word: "é", Docs: []int{0}, Many: []int{3}}},
	}
}

const someText = "doc /a 7 A b\ndoc /b/ 0 \nterm 1 1:600000\nterm cat 0:1 1:12\nterm é 0:3\n"

// P10.9: an index as a string, and back.
func TestIndexText(t *testing.T) {
	text, e := ship.IndexText(some())
	expect(t, "a string", text, e, someText, api.OK)
	x, e := ship.ReadIndex(someText)
	expect(t, "an index", x, e, some(), api.OK)
	text, e = ship.IndexText(ship.Index{})
	expect(t, "the empty index", text, e, "", api.OK)
	x, e = ship.ReadIndex("")
	expect(t, "an empty string", x, e, ship.Index{}, api.OK)
	x, e = ship.ReadIndex("doc / 200000   a  \n")
	expect(t, "a title with blanks", x, e, ship.Index{Docs: docs("/", "  a  ", ""), Sizes: []int{200_000}}, api.OK)
}

// P10.9: errors of indexes, in order.
func TestIndexTextErrors(t *testing.T) {
	for name, c := range map[string]struct {
		change func(x *ship.Index)
		want   api.Errno
	}{
		"many documents":             {func(x *ship.Index) { x.Docs, x.Sizes, x.Terms = manyDocs(120), make([]int, 120), nil }, api.OK},
		"too many documents":         {func(x *ship.Index) { x.Docs = make([]ship.Doc, 121) }, api.ErrLarge},
		"no address":                 {func(x *ship.Index) { x.Docs[0].Address = "a" }, api.ErrPath},
		"disorder":                   {func(x *ship.Index) { x.Docs[1].Address, x.Docs[1].Title = "/a", "\n" }, api.ErrOrder},
		"a line feed":                {func(x *ship.Index) { x.Docs[0].Title, x.Docs[0].Text = "\n", "x" }, api.ErrByte},
		"a text":                     {func(x *ship.Index) { x.Docs[0].Text, x.Docs[1].Address = "x", "" }, api.ErrForm},
		"document before sizes":      {func(x *ship.Index) { x.Docs[1].Text, x.Sizes = "\n", []int{-1} }, api.ErrForm},
		"too few sizes":              {func(x *ship.Index) { x.Sizes = []int{-1} }, api.ErrForm},
		"too many sizes":             {func(x *ship.Index) { x.Sizes = []int{1, 2, 3} }, api.ErrForm},
		"no sizes":                   {func(x *ship.Index) { x.Sizes = nil }, api.ErrForm},
		"a size below 0":             {func(x *ship.Index) { x.Sizes[0], x.Terms[0].Word = -1, "" }, api.ErrRange},
		"a great size":               {func(x *ship.Index) { x.Sizes[1] = api.MaxOut }, api.OK},
		"a greater size":             {func(x *ship.Index) { x.Sizes[1] = api.MaxOut + 1 }, api.ErrRange},
		"an empty word":              {func(x *ship.Index) { x.Terms[0].Word, x.Terms[0].Docs = "", nil }, api.ErrForm},
		"a word with a blank":        {func(x *ship.Index) { x.Terms[0].Word = "1 " }, api.ErrForm},
		"two words":                  {func(x *ship.Index) { x.Terms[0].Word = "1-1" }, api.ErrForm},
		"a capital letter":           {func(x *ship.Index) { x.Terms[0].Word = "A" }, api.ErrForm},
		"a long word":                {func(x *ship.Index) { x.Terms[1].Word = wide(30) }, api.OK},
		"a longer word":              {func(x *ship.Index) { x.Terms[1].Word = wide(31) }, api.ErrForm},
		"a word that is no stem":     {func(x *ship.Index) { x.Terms[1].Word = "cats" }, api.OK},
		"a word twice":               {func(x *ship.Index) { x.Terms[1].Word, x.Terms[1].Docs = "1", nil }, api.ErrOrder},
		"words in disorder":          {func(x *ship.Index) { x.Terms[1].Word = "0" }, api.ErrOrder},
		"word before order":          {func(x *ship.Index) { x.Terms[1].Word = "0 " }, api.ErrForm},
		"no documents":               {func(x *ship.Index) { x.Terms[1].Docs, x.Terms[1].Many = nil, nil }, api.ErrForm},
		"too few Many":               {func(x *ship.Index) { x.Terms[1].Docs, x.Terms[1].Many = []int{5, 6}, []int{1} }, api.ErrForm},
		"too many Many":              {func(x *ship.Index) { x.Terms[1].Many = []int{1, 2, 3} }, api.ErrForm},
		"no such document":           {func(x *ship.Index) { x.Terms[1].Docs[1], x.Terms[1].Many[1] = 2, 0 }, api.ErrRange},
		"a document below 0":         {func(x *ship.Index) { x.Terms[1].Docs[1] = -1 }, api.ErrRange},
		"a document twice":           {func(x *ship.Index) { x.Terms[1].Docs[1], x.Terms[1].Many[1] = 0, 0 }, api.ErrOrder},
		"documents in disorder":      {func(x *ship.Index) { x.Terms[1].Docs = []int{1, 0} }, api.ErrOrder},
		"an earlier Many":            {func(x *ship.Index) { x.Terms[1].Docs[1], x.Terms[1].Many[0] = 0, 0 }, api.ErrRange},
		"a Many of 0":                {func(x *ship.Index) { x.Terms[1].Many[1] = 0 }, api.ErrRange},
		"a greater Many":             {func(x *ship.Index) { x.Terms[0].Many[0]++ }, api.ErrRange},
		"documents before next word": {func(x *ship.Index) { x.Terms[0].Many[0], x.Terms[1].Word = 0, "" }, api.ErrRange},
		"long titles":                {func(x *ship.Index) { x.Docs[0].Title = wide(ship.MaxIndex - len(someText) + 3) }, api.OK},
		"longer titles":              {func(x *ship.Index) { x.Docs[0].Title = wide(ship.MaxIndex - len(someText) + 4) }, api.ErrLarge},
		"terms before length":        {func(x *ship.Index) { x.Docs[0].Title, x.Terms[2].Docs = wide(ship.MaxIndex), nil }, api.ErrForm},
	} {
		x := some()
		c.change(&x)
		text, e := ship.IndexText(x)
		if e != c.want || e != api.OK && text != "" {
			t.Errorf("%s: error %d, not %d: %s", name, e, c.want, short(text))
		}
		hits, e := ship.Search(x, wide(201), -1)
		if c.want != api.OK {
			expect(t, name+": Search", hits, e, nil, c.want)
		}
		if c.want == api.OK {
			back, e := ship.ReadIndex(text)
			expect(t, name+": ReadIndex", back, e, x, api.OK)
		}
	}
	long := ship.Index{Docs: docs("/", "", ""), Sizes: []int{0}}
	for i := range 200_000 {
		long.Terms = append(long.Terms, ship.Term{Word: fmt.Sprintf("%06d", i), Docs: []int{0}, Many: []int{1}})
	}
	text, e := ship.IndexText(long)
	expect(t, "many terms", text, e, "", api.ErrLarge)
	long.Terms[199_999].Many[0] = 0
	text, e = ship.IndexText(long)
	expect(t, "many terms, and an error of the last one", text, e, "", api.ErrRange)
}

// P10.9: strings that are no index.
func TestReadIndexErrors(t *testing.T) {
	for text, want := range map[string]api.Errno{
		"\n":                                    api.ErrSyntax,
		"doc /a 7 A":                            api.ErrSyntax,
		"doc /a 7 A\n\n":                        api.ErrSyntax,
		"doc /a 7\n":                            api.ErrSyntax,
		"doc /a 7 \n":                           api.OK,
		"doc /a\n":                              api.ErrSyntax,
		"doc \n":                                api.ErrSyntax,
		"doc\n":                                 api.ErrSyntax,
		"docs /a 7 A\n":                         api.ErrSyntax,
		" doc /a 7 A\n":                         api.ErrSyntax,
		"DOC /a 7 A\n":                          api.ErrSyntax,
		"doc /a  7 A\n":                         api.ErrSyntax,
		"doc /a x A\n":                          api.ErrSyntax,
		"doc /a -1 A\n":                         api.ErrSyntax,
		"doc /a +1 A\n":                         api.ErrSyntax,
		"doc /a 07 A\n":                         api.ErrSyntax,
		"doc /a 00 A\n":                         api.ErrSyntax,
		"doc /a 1.0 A\n":                        api.ErrSyntax,
		"doc /a 999999999 A\n":                  api.ErrRange,
		"doc /a 1000000000 A\n":                 api.ErrSyntax,
		"doc /a 99999999999999999999 A\n":       api.ErrSyntax,
		"doc a 7 A\n":                           api.ErrPath,
		"doc /a\t 7 A\n":                        api.ErrPath,
		"doc /a 7 \tA\n":                        api.ErrByte,
		"doc /a 7 \r\n":                         api.ErrByte,
		"doc /b 7 A\ndoc /a 7 A\n":              api.ErrOrder,
		"doc /a 200001 A\n":                     api.ErrRange,
		"doc /a 7 A\nterm b\n":                  api.ErrSyntax,
		"doc /a 7 A\nterm b \n":                 api.ErrSyntax,
		"doc /a 7 A\nterm \n":                   api.ErrSyntax,
		"doc /a 7 A\nterm\n":                    api.ErrSyntax,
		"doc /a 7 A\nterm b 0:1\n":              api.OK,
		"doc /a 7 A\nterm b 0:1":                api.ErrSyntax,
		"doc /a 7 A\nterm b 0:1 \n":             api.ErrSyntax,
		"doc /a 7 A\nterm b  0:1\n":             api.ErrSyntax,
		"doc /a 7 A\nterm b 0\n":                api.ErrSyntax,
		"doc /a 7 A\nterm b :1\n":               api.ErrSyntax,
		"doc /a 7 A\nterm b 0:\n":               api.ErrSyntax,
		"doc /a 7 A\nterm b 0:1:1\n":            api.ErrSyntax,
		"doc /a 7 A\nterm b 00:1\n":             api.ErrSyntax,
		"doc /a 7 A\nterm b 0:01\n":             api.ErrSyntax,
		"doc /a 7 A\nterm b -0:1\n":             api.ErrSyntax,
		"doc /a 7 A\nterm b 0:1,\n":             api.ErrSyntax,
		"doc /a 7 A\nterm b 0:0\n":              api.ErrRange,
		"doc /a 7 A\nterm b 1:1\n":              api.ErrRange,
		"doc /a 7 A\nterm b 0:600001\n":         api.ErrRange,
		"doc /a 7 A\nterm b 999999999:1\n":      api.ErrRange,
		"doc /a 7 A\nterm b 1000000000:1\n":     api.ErrSyntax,
		"doc /a 7 A\nterm b 0:1 0:1\n":          api.ErrOrder,
		"doc /a 7 A\nterm B 0:1\n":              api.ErrForm,
		"doc /a 7 A\nterm b-b 0:1\n":            api.ErrForm,
		"doc /a 7 A\nterm b 0:1\nterm b 0:1\n":  api.ErrOrder,
		"term b 0:1\n":                          api.ErrRange,
		"term b 0:1\ndoc /a 7 A\n":              api.ErrSyntax,
		"doc a 7 A\nx\n":                        api.ErrSyntax,
		strings.Repeat("doc / 0 \n", 121):       api.ErrLarge,
		strings.Repeat("doc / 0 \n", 121) + "x": api.ErrSyntax,
		strings.Repeat("\n", ship.MaxIndex):     api.ErrSyntax,
		strings.Repeat("\n", ship.MaxIndex+1):   api.ErrLarge,
	} {
		x, e := ship.ReadIndex(text)
		if e != want || e != api.OK && show(x) != show(ship.Index{}) {
			t.Errorf("%s: error %d, not %d", short(text), e, want)
		}
		if e == api.OK {
			back, e := ship.IndexText(x)
			expect(t, text, back, e, text, api.OK)
		}
	}
}

var someWords = words("cat cats Cat dog dogs running run runs a the The é x-ray ponies pony agreed 12 1990s sing " + wide(31)) // with one that is too long

// anyDocs are some documents.
func anyDocs(r *rand.Rand) []ship.Doc {
	var l []ship.Doc
	for _, address := range words("/ /a /a/ /b/ /c /d /e /f") {
		if r.Intn(2) == 0 {
			continue
		}
		var title, text []string
		for range r.Intn(4) {
			title = append(title, pick(r, someWords))
		}
		for range r.Intn(30) {
			text = append(text, pick(r, someWords))
		}
		l = append(l, ship.Doc{Address: address, Title: strings.Join(title, " "), Text: strings.Join(text, pick(r, []string{" ", ".", "\n"}))})
	}
	return l
}

// indexOf is the index of documents, as the chapter has it word by word.
func indexOf(l []ship.Doc) ship.Index {
	var x ship.Index
	var stems []string
	for _, doc := range l {
		title, text := ship.Words(doc.Title), ship.Words(doc.Text)
		x.Docs = append(x.Docs, ship.Doc{Address: doc.Address, Title: doc.Title})
		x.Sizes = append(x.Sizes, len(title)+len(text))
		for _, word := range append(title, text...) {
			stems = append(stems, ship.Stem(word))
		}
	}
	slices.Sort(stems)
	for _, stem := range slices.Compact(stems) {
		term := ship.Term{Word: stem}
		for i, doc := range l {
			many := 0
			for _, word := range ship.Words(doc.Title + " " + doc.Title + " " + doc.Title + " " + doc.Text) {
				if ship.Stem(word) == stem {
					many++
				}
			}
			if many > 0 {
				term.Docs, term.Many = append(term.Docs, i), append(term.Many, many)
			}
		}
		x.Terms = append(x.Terms, term)
	}
	return x
}

// P10.9, P10.10: random documents and queries.
func TestIndexRandom(t *testing.T) {
	r := rand.New(rand.NewSource(8))
	found := 0
	for range 4000 {
		l := anyDocs(r)
		x, e := ship.NewIndex(l)
		expect(t, "an index", x, e, indexOf(l), api.OK)
		text, e := ship.IndexText(x)
		back, e2 := ship.ReadIndex(text)
		if e != api.OK || e2 != api.OK || show(back) != show(x) {
			t.Fatalf("%q: %d %d", text, e, e2)
		}
		var query []string
		for range r.Intn(6) {
			query = append(query, pick(r, someWords))
		}
		most := r.Intn(6)
		hits, e := ship.Search(x, strings.Join(query, " "), most)
		expect(t, strings.Join(query, " "), hits, e, searched(x, query, most), api.OK)
		found += len(hits)
	}
	if found < 3000 {
		t.Errorf("%d hits", found)
	}
}

// searched is Search, as the chapter has it word by word.
func searched(x ship.Index, query []string, most int) []ship.Hit {
	var stems []string
	for _, word := range ship.Words(strings.Join(query, " ")) {
		if stem := ship.Stem(word); !slices.Contains(stems, stem) {
			stems = append(stems, stem)
		}
	}
	var hits []ship.Hit
	for i, doc := range x.Docs {
		score := 0
		for _, term := range x.Terms {
			if n := slices.Index(term.Docs, i); n >= 0 && slices.Contains(stems, term.Word) {
				weight := len(strconv.FormatInt(int64(len(x.Docs)/len(term.Docs)), 2))
				score += term.Many[n] * 1000 * weight / (x.Sizes[i] + 10)
			}
		}
		if score > 0 {
			hits = append(hits, ship.Hit{Address: doc.Address, Score: score})
		}
	}
	slices.SortFunc(hits, func(a, b ship.Hit) int {
		if a.Score != b.Score {
			return b.Score - a.Score
		}
		return strings.Compare(a.Address, b.Address)
	})
	return hits[:min(most, len(hits))]
}

// scored is an index of so many documents, in the first ones of which the terms a and b are.
func scored(docs, withA, withB int) ship.Index {
	x := ship.Index{Docs: manyDocs(docs), Sizes: make([]int, docs)}
	for i, with := range []int{withA, withB} {
		term := ship.Term{Word: string(rune('a' + i))}
		for k := range with {
			term.Docs, term.Many = append(term.Docs, k), append(term.Many, 1)
		}
		if with > 0 {
			x.Terms = append(x.Terms, term)
		}
	}
	return x
}

// P10.10: scores.
func TestSearch(t *testing.T) {
	for _, c := range []struct{ docs, with, weight int }{{1, 1, 1}, {2, 1, 2}, {3, 1, 2}, {4, 1, 3}, {7, 1, 3}, {8, 1, 4}, {3, 2, 1}, {5, 2, 2}, {9, 2, 3}, {120, 1, 7}, {120, 2, 6}, {120, 120, 1}} {
		hits, e := ship.Search(scored(c.docs, c.with, 0), "a", 1)
		expect(t, show(c), hits, e, []ship.Hit{{Address: "/d000000", Score: 100 * c.weight}}, api.OK)
	}
	x := scored(3, 2, 3)
	x.Terms[0].Many = []int{4, 2}
	x.Sizes = []int{20, 1, 91}
	for query, want := range map[string]string{
		"":              "",
		"c":             "",
		"-":             "",
		"a":             "/d000001 181, /d000000 133", // 2000 / 11, 4000 / 30
		"A a, a a's":    "/d000001 181, /d000000 133",
		"b":             "/d000001 90, /d000000 33, /d000002 9", // 1000 / 11, / 30, / 101
		"b a":           "/d000001 271, /d000000 166, /d000002 9",
		"a c b d":       "/d000001 271, /d000000 166, /d000002 9",
		"ab":            "",
		wide(200):       "",
		"a" + wide(199): "",
	} {
		hits, e := ship.Search(x, query, 50)
		var got []string
		for _, hit := range hits {
			got = append(got, fmt.Sprintf("%s %d", hit.Address, hit.Score))
		}
		expect(t, query, strings.Join(got, ", "), e, want, api.OK)
	}
	x = scored(3, 3, 0)
	x.Sizes = []int{0, 991, 990}
	hits, e := ship.Search(x, "a", 50)
	expect(t, "a score of 0", hits, e, []ship.Hit{{Address: "/d000000", Score: 100}, {Address: "/d000002", Score: 1}}, api.OK)
	x.Terms[0].Docs, x.Terms[0].Many = []int{0}, []int{600_000}
	hits, e = ship.Search(x, "a", 50)
	expect(t, "a great score", hits, e, []ship.Hit{{Address: "/d000000", Score: 120_000_000}}, api.OK)
}

// P10.10: stems of a query, and terms that are no stems.
func TestSearchStems(t *testing.T) {
	x := scored(1, 1, 0)
	x.Terms[0].Word = "cats"
	hits, e := ship.Search(x, "cats", 50)
	expect(t, "a term that is no stem", hits, e, nil, api.OK)
	x.Terms[0].Word = "runn"
	hits, e = ship.Search(x, "Running, runned, runn & runns", 50)
	expect(t, "one stem", hits, e, []ship.Hit{{Address: "/d000000", Score: 100}}, api.OK)
}

// P10.10: how many hits there are, and errors.
func TestSearchMost(t *testing.T) {
	x := scored(100, 100, 0)
	for most, want := range map[int]int{0: 0, 1: 1, 49: 49, 50: 50} {
		hits, e := ship.Search(x, "a", most)
		expect(t, fmt.Sprint("the first ", most), len(hits), e, want, api.OK)
		for i, hit := range hits {
			same(t, "of equal ones by address", hit.Address, x.Docs[i].Address)
		}
	}
	for most, want := range map[int]api.Errno{-1: api.ErrRange, 51: api.ErrRange} {
		hits, e := ship.Search(x, "a", most)
		expect(t, fmt.Sprint("the first ", most), hits, e, nil, want)
		hits, e = ship.Search(x, wide(201), most)
		expect(t, "a long query", hits, e, nil, api.ErrLarge)
	}
	hits, e := ship.Search(x, strings.Repeat(" ", 199)+"a", 1)
	expect(t, "a query of 200 bytes", len(hits), e, 1, api.OK)
	hits, e = ship.Search(ship.Index{}, "a", 50)
	expect(t, "the empty index", hits, e, nil, api.OK)
}
