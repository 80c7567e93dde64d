package page

import (
	"slices"
	"strings"

	"masthead/api"
	"masthead/mark"
	"masthead/tree"
)

// How Dests begin that say what is meant, and not where it is.
const (
	refScheme   = "ref:"
	assetScheme = "asset:"
)

// brokenDest is where a Link leads that leads nowhere.
const brokenDest = "#"

func isAddress(s string) bool {
	return len(s) <= api.MaxPath && tree.CheckAddress(s) == api.OK
}

// Resolve is the address to which a reference leads from a page.
func Resolve(from, ref string) (string, api.Errno) {
	if !isAddress(from) || len(ref) > api.MaxPath {
		return "", api.ErrPath
	}
	address := from
	if strings.HasPrefix(ref, "/") {
		address = "/"
	}
	for part := range strings.SplitSeq(ref, "/") {
		switch part {
		case "", ".":
		case "..":
			if address == "/" {
				return "", api.ErrNone
			}
			address = above(address)
		default:
			address += part + "/"
			if !isAddress(address) {
				return "", api.ErrPath
			}
		}
	}
	return address, api.OK
}

// above is an address without its last part.
func above(address string) string {
	address = strings.TrimSuffix(address, "/")
	return address[:strings.LastIndexByte(address, '/')+1]
}

// Target says what becomes of the Dest of a Link or Image: the new one, the name of the fact that was looked up for it, and whether it leads anywhere.
func Target(h Host, dest string) (string, string, bool) {
	if ref, ok := strings.CutPrefix(dest, refScheme); ok {
		return pageTarget(h, ref)
	}
	if path, ok := strings.CutPrefix(dest, assetScheme); ok {
		return assetTarget(h, path)
	}
	return dest, "", true
}

func pageTarget(h Host, ref string) (dest, fact string, ok bool) {
	path, _, _ := strings.Cut(ref, "#")
	address, e := Resolve(h.Address, path)
	if e != api.OK {
		return brokenDest, "", false
	}
	fact = tree.FactName(address)
	if valueOf(h.Facts, fact).Kind != api.Table {
		return brokenDest, fact, false
	}
	return address + ref[len(path):], fact, true
}

func assetTarget(h Host, path string) (dest, fact string, ok bool) {
	fact = assetScheme + path
	v := valueOf(h.Facts, fact)
	i := slices.Index(v.Keys, "url")
	if v.Kind != api.Table || i < 0 || i >= len(v.Items) || v.Items[i].Kind != api.String {
		return brokenDest, fact, false
	}
	return v.Items[i].Text, fact, true
}

// valueOf is the value of the first fact with a name; it stays a Fact, if it is one.
func valueOf(facts []api.Named, name string) api.Value {
	i := slices.IndexFunc(facts, func(f api.Named) bool { return f.Name == name })
	if i < 0 {
		return api.Value{}
	}
	return facts[i].Value
}

// References are all Dests of a body that say what is meant, and not where it is.
func References(body string) ([]string, api.Errno) {
	docs, e := documentsOf(body)
	if e != api.OK {
		return nil, e
	}
	var l []string
	for _, doc := range docs {
		dests, _ := mark.Targets(doc)
		for _, dest := range dests {
			if strings.HasPrefix(dest, refScheme) || strings.HasPrefix(dest, assetScheme) {
				l = append(l, dest)
			}
		}
	}
	return l, api.OK
}
