package ship

import (
	"slices"
	"strings"

	"masthead/api"
)

// Plan is the steps that make a new site of an old one, none of which breaks a link.
func Plan(old, next []api.Out) ([]Step, api.Errno) {
	if e := checkBoth(old, next); e != api.OK {
		return nil, e
	}
	references, e := referencesOf(next)
	if e != api.OK {
		return nil, e
	}
	if e := checkTogether(old, next); e != api.OK {
		return nil, e
	}
	fresh, changed, gone := differences(old, next)
	var p planner
	p.upload(merge(choose(fresh, isNoPage), choose(changed, isNoPage)))
	p.uploadPages(next, choose(fresh, isPage), references)
	for _, out := range choose(changed, isPage) {
		p.upload([]api.Out{out})
	}
	p.remove(choose(gone, isPage))
	p.remove(choose(gone, isNoPage))
	return p.steps, api.OK
}

func choose(l []api.Out, chosen func(api.Out) bool) []api.Out {
	var some []api.Out
	for _, out := range l {
		if chosen(out) {
			some = append(some, out)
		}
	}
	return some
}

// checkTogether says whether two valid lists of outputs can follow each other.
func checkTogether(old, next []api.Out) api.Errno {
	both := merge(old, next)
	both = slices.CompactFunc(both, func(a, b api.Out) bool { return a.Path == b.Path })
	if len(both) > maxOuts {
		return api.ErrLarge
	}
	for _, out := range both {
		for _, directory := range above(out.Path) {
			if has(both, directory) {
				return api.ErrTwice
			}
		}
	}
	return api.OK
}

// merge is the outputs of both lists, in the order of their paths.
func merge(a, b []api.Out) []api.Out {
	l := slices.Concat(a, b)
	slices.SortStableFunc(l, func(a, b api.Out) int { return strings.Compare(a.Path, b.Path) })
	return l
}

// differences are the outputs of a new site that an old one does not have, those that it has with another body, and those of the old one that are gone.
func differences(old, next []api.Out) (fresh, changed, gone []api.Out) {
	for _, out := range next {
		i, ok := find(old, out.Path, pathOf)
		if !ok {
			fresh = append(fresh, out)
		} else if old[i].Body != out.Body {
			changed = append(changed, out)
		}
	}
	for _, out := range old {
		if !has(next, out.Path) {
			gone = append(gone, out)
		}
	}
	return fresh, changed, gone
}

// referencesOf are the numbers of the outputs to which each output refers.
func referencesOf(l []api.Out) ([][]int, api.Errno) {
	references := make([][]int, len(l))
	for i, out := range l {
		links, e := linksOf(out)
		if e != api.OK {
			return nil, e
		}
		seen := map[int]bool{}
		for _, link := range links {
			to := refersTo(l, i, link.Target)
			if to >= 0 && !seen[to] {
				seen[to] = true
				references[i] = append(references[i], to)
			}
		}
	}
	return references, api.OK
}

// refersTo is the number of the output to which a target leads; -1, if there is none.
func refersTo(l []api.Out, from int, target string) int {
	if isOutside(target) {
		return -1
	}
	rest, _ := cutTarget(target)
	to, _ := goal(l, from, rest)
	return to
}

// planner makes the steps of a plan.
type planner struct{ steps []Step }

func (p *planner) add(s Step) {
	if len(s.Files) > 0 {
		p.steps = append(p.steps, s)
	}
}

func (p *planner) upload(files []api.Out) { p.add(Step{Files: files}) }

func (p *planner) remove(files []api.Out) {
	var paths []api.Out
	for _, file := range files {
		paths = append(paths, api.Out{Path: file.Path})
	}
	p.add(Step{Remove: true, Files: paths})
}

// uploadPages uploads new pages, each one together with those, or after those, to which it refers.
func (p *planner) uploadPages(site, fresh []api.Out, references [][]int) {
	closures := closuresOf(site, fresh, references)
	for len(closures) > 0 {
		// The first one of the shortest is that with the least path: pages that reach each other have one closure, and the least of them comes first.
		shortest := slices.MinFunc(closures, func(a, b []int) int { return len(a) - len(b) })
		var files []api.Out
		done := make([]bool, len(site))
		for _, number := range shortest {
			files = append(files, site[number])
			done[number] = true
		}
		p.upload(files)
		closures = without(closures, done)
	}
}

// closuresOf are, for each new page, the numbers of it and of all that are reached from it through new pages alone, rising.
func closuresOf(site, fresh []api.Out, references [][]int) [][]int {
	isFresh := make([]bool, len(site))
	for i, out := range site {
		isFresh[i] = has(fresh, out.Path)
	}
	var closures [][]int
	for i := range site {
		if isFresh[i] {
			closures = append(closures, closureOf(i, isFresh, references))
		}
	}
	return closures
}

func closureOf(number int, isFresh []bool, references [][]int) []int {
	closure := []int{number}
	seen := make([]bool, len(isFresh))
	seen[number] = true
	for i := 0; i < len(closure); i++ {
		for _, to := range references[closure[i]] {
			if isFresh[to] && !seen[to] {
				seen[to] = true
				closure = append(closure, to)
			}
		}
	}
	slices.Sort(closure)
	return closure
}

// without is closures without what is done. What is done reaches nothing else, so no page is reached through it alone.
func without(closures [][]int, done []bool) [][]int {
	var left [][]int
	for _, closure := range closures {
		closure = slices.DeleteFunc(closure, func(number int) bool { return done[number] })
		if len(closure) > 0 {
			left = append(left, closure)
		}
	}
	return left
}
