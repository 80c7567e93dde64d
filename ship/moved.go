package ship

import (
	"slices"
	"strings"

	"masthead/api"
)

// addresses lead to addresses. They are looked up with or without the last slash.
type addresses map[string]string

// newAddresses are those from which redirects lead.
func newAddresses(moved []Redirect) addresses {
	a := addresses{}
	for _, r := range moved {
		a[bare(r.From)] = r.To
	}
	return a
}

// addressesOf are those of outputs, each of which leads to itself.
func addressesOf(l []api.Out) addresses {
	a := addresses{}
	for _, out := range l {
		address := addressOf(out.Path)
		a[bare(address)] = address
	}
	return a
}

// bare is an address without the last slash.
func bare(address string) string { return strings.TrimSuffix(address, "/") }

func (a addresses) of(address string) (string, bool) {
	to, ok := a[bare(address)]
	return to, ok
}

// ofPath is where the address of a path leads; false, if that is no path.
func (a addresses) ofPath(path string) (string, bool) {
	address, e := Address(path)
	if e != api.OK {
		return "", false
	}
	return a.of(address)
}

// Moved are the redirects that lead to outputs, each one directly, and those that do not.
func Moved(l []api.Out, moved []Redirect) ([]Redirect, []Redirect, api.Errno) {
	if e := CheckOuts(l); e != api.OK {
		return nil, nil, e
	}
	if e := checkRedirects(moved); e != api.OK {
		return nil, nil, e
	}
	outs, further := addressesOf(l), newAddresses(moved)
	var good, left []Redirect
next:
	for _, r := range moved {
		if _, ok := outs.of(r.From); ok {
			left = append(left, r)
			continue
		}
		at := r.From
		for range moved { // a way with more steps goes in a ring
			to, ok := further.of(at)
			if !ok {
				break
			}
			if address, ok := outs.of(to); ok {
				good = append(good, Redirect{From: r.From, To: address})
				continue next
			}
			at = to
		}
		left = append(left, r)
	}
	slices.SortFunc(good, func(a, b Redirect) int { return strings.Compare(a.From, b.From) })
	return good, left, api.OK
}

func checkRedirects(moved []Redirect) api.Errno {
	if len(moved) > MaxRedirects {
		return api.ErrLarge
	}
	before := addresses{}
	for _, r := range moved {
		if !canMove(r.From) || !canMove(r.To) {
			return api.ErrPath
		}
		if _, ok := before.of(r.From); ok {
			return api.ErrTwice
		}
		before[bare(r.From)] = r.To
	}
	return api.OK
}

// canMove says whether a string can be an end of a redirect.
func canMove(s string) bool { return isAddress(s) && !strings.HasSuffix(s, "/"+indexFile) }
