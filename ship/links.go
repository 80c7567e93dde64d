package ship

import (
	"slices"

	"masthead/api"
)

// Links are those of all pages.
func Links(l []api.Out) ([]Link, api.Errno) {
	if e := CheckOuts(l); e != api.OK {
		return nil, e
	}
	var links []Link
	for _, out := range l {
		more, e := linksOf(out)
		if e != api.OK {
			return nil, e
		}
		links = append(links, more...)
	}
	return links, api.OK
}

// linksOf are the links of an output, if it is a page.
func linksOf(out api.Out) ([]Link, api.Errno) {
	tokens, e := tokensOf(out)
	if e != api.OK {
		return nil, e
	}
	var links []Link
	for _, t := range tokens {
		for _, attr := range t.Attrs {
			if attr.Name == "href" || attr.Name == "src" {
				links = append(links, Link{Path: out.Path, At: t.At, Target: attr.Value})
			}
		}
	}
	return links, api.OK
}

// tokensOf are the tokens of an output, if it is a page.
func tokensOf(out api.Out) ([]Token, api.Errno) {
	if isNoPage(out) {
		return nil, api.OK
	}
	return Tokens(out.Body)
}

// Ids are those that can be the fragments of links to a page.
func Ids(html string) ([]string, api.Errno) {
	tokens, e := Tokens(html)
	if e != api.OK {
		return nil, e
	}
	var ids []string
	for _, t := range tokens {
		if id, _ := attribute(t, "id"); id != "" {
			ids = append(ids, id)
		}
	}
	return ids, api.OK
}

// attribute is the value of the first attribute with a name; false, if there is none.
func attribute(t Token, name string) (string, bool) {
	i := slices.IndexFunc(t.Attrs, func(a Attr) bool { return a.Name == name })
	if i < 0 {
		return "", false
	}
	return t.Attrs[i].Value, true
}
