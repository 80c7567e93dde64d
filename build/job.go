package build

import (
	"slices"
	"strings"

	"masthead/api"
	"masthead/tmpl"
	"masthead/tree"
)

// CheckJob is the first fault of a job.
func CheckJob(j Job) Fault {
	if tmpl.Check(j.Set).E != api.OK {
		return Fault{E: api.ErrSyntax}
	}
	if e := checkFacts(j.Facts); e != api.OK {
		return Fault{E: e}
	}
	for _, check := range []func(j Job) Fault{checkBodies, checkWants, checkCopies} {
		if fault := check(j); fault.E != api.OK {
			return fault
		}
	}
	return Fault{}
}

func checkFacts(facts []api.Named) api.Errno {
	for i, f := range facts {
		if i > 0 && f.Name <= facts[i-1].Name {
			return api.ErrOrder
		}
		if strings.HasPrefix(f.Name, contentPrefix) || strings.HasPrefix(f.Name, templatePrefix) {
			return api.ErrForm
		}
	}
	return api.OK
}

func checkBodies(j Job) Fault {
	for i, body := range j.Bodies {
		e := api.OK
		switch {
		case len(body.Address) > api.MaxPath || tree.CheckAddress(body.Address) != api.OK:
			e = api.ErrPath
		case i > 0 && body.Address <= j.Bodies[i-1].Address:
			e = api.ErrOrder
		case body.Words < 0 || body.Words > api.MaxBody:
			e = api.ErrRange
		}
		if e != api.OK {
			return Fault{body.Address, e}
		}
	}
	return Fault{}
}

func checkWants(j Job) Fault {
	templates, last := map[string]bool{}, lastBelow(j.Wants)
	for _, source := range j.Set {
		templates[source.Name] = true
	}
	for i, want := range j.Wants {
		e := api.OK
		switch {
		case tree.CheckPath(want.Path) != api.OK:
			e = api.ErrPath
		case i > 0 && want.Path <= j.Wants[i-1].Path:
			e = api.ErrOrder
		case last[want.Path] > i:
			e = api.ErrTwice
		case !templates[want.Template]:
			e = api.ErrNone
		}
		if e != api.OK {
			return Fault{want.Path, e}
		}
	}
	if len(j.Wants) > MaxWants {
		return Fault{E: api.ErrLarge}
	}
	return Fault{}
}

// lastBelow is the number of the last output below each directory.
func lastBelow(wants []Want) map[string]int {
	last := map[string]int{}
	for i, want := range wants {
		for directory := range above(want.Path) {
			last[directory] = i
		}
	}
	return last
}

func checkCopies(j Job) Fault {
	wants := wantPaths(j.Wants)
	wanted, both := newPathSet(wants), newPathSet(slices.Concat(wants, outPaths(j.Copies)))
	for i, copied := range j.Copies {
		e := api.OK
		switch {
		case tree.CheckPath(copied.Path) != api.OK:
			e = api.ErrPath
		case i > 0 && copied.Path <= j.Copies[i-1].Path:
			e = api.ErrOrder
		case wanted.files[copied.Path] || both.hasNested(copied.Path):
			e = api.ErrTwice
		case len(copied.Body) > api.MaxOut:
			e = api.ErrLarge
		}
		if e != api.OK {
			return Fault{copied.Path, e}
		}
	}
	return Fault{}
}

func wantPaths(l []Want) []string {
	var paths []string
	for _, want := range l {
		paths = append(paths, want.Path)
	}
	return paths
}

func outPaths(l []api.Out) []string {
	var paths []string
	for _, out := range l {
		paths = append(paths, out.Path)
	}
	return paths
}
