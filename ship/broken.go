package ship

import "masthead/api"

// Broken are the links of a site that lead nowhere.
func Broken(l []api.Out, moved []Redirect) ([]Link, api.Errno) {
	good, _, e := Moved(l, moved)
	if e != api.OK {
		return nil, e
	}
	c := linkCheck{outs: l, moved: newAddresses(good), ids: map[int]map[string]bool{}}
	var broken []Link
	for i, out := range l {
		links, e := linksOf(out)
		if e != api.OK {
			return nil, e
		}
		for _, link := range links {
			if c.isBroken(i, link.Target) {
				broken = append(broken, link)
			}
		}
	}
	return broken, api.OK
}

// linkCheck knows where links can lead.
type linkCheck struct {
	outs  []api.Out
	moved addresses
	ids   map[int]map[string]bool // of pages that have been looked at, by their numbers
}

// isBroken says whether a target of a page leads nowhere.
func (c linkCheck) isBroken(from int, target string) bool {
	if isOutside(target) {
		return false
	}
	rest, fragment := cutTarget(target)
	to, path := goal(c.outs, from, rest)
	if to < 0 {
		_, ok := c.moved.ofPath(path)
		return !ok
	}
	return fragment != "" && isPage(c.outs[to]) && !c.idsOf(to)[decode(fragment)]
}

// idsOf are the ids of a page. One with an error has none: its error is found with its links.
func (c linkCheck) idsOf(number int) map[string]bool {
	ids, ok := c.ids[number]
	if !ok {
		ids = map[string]bool{}
		l, _ := Ids(c.outs[number].Body)
		for _, id := range l {
			ids[id] = true
		}
		c.ids[number] = ids
	}
	return ids
}
