package build_test

import (
	"fmt"
	"math/rand"
	"slices"
	"strings"
	"testing"

	"masthead/api"
	"masthead/build"
	"masthead/page"
	"masthead/tmpl"
	"masthead/tree"
)

// TestLimits: the constants are those of the chapter.
func TestLimits(t *testing.T) {
	same(t, "limits", []int{build.MaxWants, build.MaxPage}, []int{400, 100})
}

// fullJob is a job that has no fault.
func fullJob() build.Job {
	return build.Job{
		Set:    set("a", "A{{ . }}", "b", "B"),
		Facts:  named("a", number(1), "b", text("x"), "d", list()),
		Bodies: bodies("/", "*r*", "/a/", "a", "/b/c/", "c"),
		Wants:  wants("a.html", "a", "a", "b/c.html", "b", "", "b/d.html", "a", "zz"),
		Copies: outs("a", "1", "b/e", "2", "c", ""),
		Moved:  []tree.Alias{{From: "x", To: "y"}, {}},
	}
}

// P9.1: what is wrong with a job.
func TestCheckJob(t *testing.T) {
	tooLong := strings.Repeat("abcdefghi/", 20) // 200 bytes
	for name, c := range map[string]struct {
		change func(j *build.Job)
		want   build.Fault
	}{
		"nothing":                      {func(j *build.Job) {}, none},
		"empty":                        {func(j *build.Job) { *j = build.Job{} }, none},
		"template's name":              {func(j *build.Job) { j.Set[0].Name = "A" }, at("", api.ErrSyntax)},
		"template's text":              {func(j *build.Job) { j.Set[1].Text = "{{" }, at("", api.ErrSyntax)},
		"template's call":              {func(j *build.Job) { j.Set[1].Text = `{{ call "c" . }}` }, at("", api.ErrSyntax)},
		"facts in disorder":            {func(j *build.Job) { j.Facts[1].Name = "" }, at("", api.ErrOrder)},
		"two equal facts":              {func(j *build.Job) { j.Facts[1].Name = "a" }, at("", api.ErrOrder)},
		"content":                      {func(j *build.Job) { j.Facts[2].Name = "content:" }, at("", api.ErrForm)},
		"template":                     {func(j *build.Job) { j.Facts[2].Name = "template:a" }, at("", api.ErrForm)},
		"first one content":            {func(j *build.Job) { j.Facts = named("content:/a/", number(1)) }, at("", api.ErrForm)},
		"order before form":            {func(j *build.Job) { j.Facts[1].Name, j.Facts[2].Name = "d", "content:" }, at("", api.ErrOrder)},
		"form of an earlier one":       {func(j *build.Job) { j.Facts[1].Name, j.Facts[2].Name = "content:", "a" }, at("", api.ErrForm)},
		"nearly content":               {func(j *build.Job) { j.Facts[2].Name = "content" }, none},
		"an empty name":                {func(j *build.Job) { j.Facts[0].Name = "" }, none},
		"no address":                   {func(j *build.Job) { j.Bodies[1].Address = "/a" }, at("/a", api.ErrPath)},
		"an empty address":             {func(j *build.Job) { j.Bodies[0].Address = "" }, at("", api.ErrPath)},
		"a long address":               {func(j *build.Job) { j.Bodies[2].Address = "/" + tooLong[:199] }, at("/"+tooLong[:199], api.ErrPath)},
		"an address too long":          {func(j *build.Job) { j.Bodies[2].Address = "/ab/" + tooLong[:197] + "/" }, at("/ab/"+tooLong[:197]+"/", api.ErrPath)},
		"as long as it can be":         {func(j *build.Job) { j.Bodies[2].Address = "/bb/" + tooLong[:190] + "abcde/" }, none},
		"bodies in disorder":           {func(j *build.Job) { j.Bodies[2].Address = "/A/" }, at("/A/", api.ErrPath)},
		"two equal bodies":             {func(j *build.Job) { j.Bodies[2].Address = "/a/" }, at("/a/", api.ErrOrder)},
		"an earlier address":           {func(j *build.Job) { j.Bodies[2].Address = "/" }, at("/", api.ErrOrder)},
		"too few words":                {func(j *build.Job) { j.Bodies[1].Words = -1 }, at("/a/", api.ErrRange)},
		"too many words":               {func(j *build.Job) { j.Bodies[1].Words = api.MaxBody + 1 }, at("/a/", api.ErrRange)},
		"many words":                   {func(j *build.Job) { j.Bodies[1].Words, j.Bodies[0].Words = api.MaxBody, 0 }, none},
		"order before range":           {func(j *build.Job) { j.Bodies[1].Address, j.Bodies[1].Words = "/", -1 }, at("/", api.ErrOrder)},
		"range of an earlier one":      {func(j *build.Job) { j.Bodies[1].Words, j.Bodies[2].Address = -1, "" }, at("/a/", api.ErrRange)},
		"the body is not looked at":    {func(j *build.Job) { j.Bodies[1].Text = "\x00{< none />}" }, none},
		"no path":                      {func(j *build.Job) { j.Wants[0].Path = "/a" }, at("/a", api.ErrPath)},
		"an empty path":                {func(j *build.Job) { j.Wants[0].Path = "" }, at("", api.ErrPath)},
		"a long path":                  {func(j *build.Job) { j.Wants[2].Path = tooLong + "a" }, at(tooLong+"a", api.ErrPath)},
		"wants in disorder":            {func(j *build.Job) { j.Wants[1].Path = "a.htm" }, at("a.htm", api.ErrOrder)},
		"two equal wants":              {func(j *build.Job) { j.Wants[1].Path = "a.html" }, at("a.html", api.ErrOrder)},
		"one below the other":          {func(j *build.Job) { j.Wants[1].Path = "a.html/x" }, at("a.html", api.ErrTwice)},
		"one far below":                {func(j *build.Job) { j.Wants = wants("a", "a", "", "a-b", "a", "", "a.b", "a", "", "a/b/c", "a", "") }, at("a", api.ErrTwice)},
		"below no path":                {func(j *build.Job) { j.Wants = wants("a", "a", "", "a//", "a", "") }, at("a", api.ErrTwice)},
		"below a long one":             {func(j *build.Job) { j.Wants = wants(tooLong[:199]+"a", "a", "", tooLong[:199]+"a/x", "a", "") }, at(tooLong[:199]+"a", api.ErrTwice)},
		"below in disorder":            {func(j *build.Job) { j.Wants = wants("a/b", "a", "", "a", "a", "") }, at("a", api.ErrOrder)},
		"beside each other":            {func(j *build.Job) { j.Wants, j.Copies = wants("a", "a", "", "a.b", "a", "", "ab/c", "b", ""), nil }, none},
		"twice before none":            {func(j *build.Job) { j.Wants[0].Template, j.Wants[1].Path = "c", "a.html/x" }, at("a.html", api.ErrTwice)},
		"order before twice":           {func(j *build.Job) { j.Wants = wants("b", "a", "", "a", "a", "", "a/b", "a", "") }, at("a", api.ErrOrder)},
		"no template":                  {func(j *build.Job) { j.Wants[2].Template = "c" }, at("b/d.html", api.ErrNone)},
		"an empty template":            {func(j *build.Job) { j.Wants[2].Template = "" }, at("b/d.html", api.ErrNone)},
		"none of an earlier one":       {func(j *build.Job) { j.Wants[0].Template, j.Wants[1].Path = "c", "" }, at("a.html", api.ErrNone)},
		"no path of a copy":            {func(j *build.Job) { j.Copies[0].Path = "a/" }, at("a/", api.ErrPath)},
		"copies in disorder":           {func(j *build.Job) { j.Copies[2].Path = "b/a" }, at("b/a", api.ErrOrder)},
		"two equal copies":             {func(j *build.Job) { j.Copies[2].Path = "b/e" }, at("b/e", api.ErrOrder)},
		"a copy that is wanted":        {func(j *build.Job) { j.Copies[1].Path = "b/c.html" }, at("b/c.html", api.ErrTwice)},
		"a copy below a want":          {func(j *build.Job) { j.Copies[1].Path = "b/c.html/x/y" }, at("b/c.html/x/y", api.ErrTwice)},
		"a copy above a want":          {func(j *build.Job) { j.Copies[1].Path = "b" }, at("b", api.ErrTwice)},
		"a copy above a copy":          {func(j *build.Job) { j.Copies[1].Path, j.Copies[2].Path = "b0", "b0/x" }, at("b0", api.ErrTwice)},
		"a copy below a later one":     {func(j *build.Job) { j.Copies = outs("d/e", "", "d", "") }, at("d/e", api.ErrTwice)},
		"copies side by side":          {func(j *build.Job) { j.Copies = outs("d", "", "d-e/f", "", "de", "") }, none},
		"a copy too large":             {func(j *build.Job) { j.Copies[1].Body = wide(api.MaxOut + 1) }, at("b/e", api.ErrLarge)},
		"a large copy":                 {func(j *build.Job) { j.Copies[1].Body = wide(api.MaxOut) }, none},
		"twice before large":           {func(j *build.Job) { j.Copies[1] = api.Out{Path: "b", Body: wide(api.MaxOut + 1)} }, at("b", api.ErrTwice)},
		"order before twice of copies": {func(j *build.Job) { j.Copies = outs("c", "", "a.html", "") }, at("a.html", api.ErrOrder)},
		"large of an earlier one":      {func(j *build.Job) { j.Copies[0].Body, j.Copies[1].Path = wide(api.MaxOut+1), "" }, at("a", api.ErrLarge)},
		"set before facts":             {func(j *build.Job) { j.Set[0].Name, j.Facts[2].Name = "", "a" }, at("", api.ErrSyntax)},
		"facts before bodies":          {func(j *build.Job) { j.Facts[2].Name, j.Bodies[0].Address = "a", "x" }, at("", api.ErrOrder)},
		"bodies before wants":          {func(j *build.Job) { j.Bodies[2].Words, j.Wants[0].Path = -1, "" }, at("/b/c/", api.ErrRange)},
		"wants before copies":          {func(j *build.Job) { j.Wants[2].Template, j.Copies[0].Path = "", "" }, at("b/d.html", api.ErrNone)},
	} {
		j := fullJob()
		c.change(&j)
		same(t, name, build.CheckJob(j), c.want)
		if rep, f := build.New().Build(j); c.want != none && (f != c.want || show(rep) != show(build.Report{})) {
			t.Errorf("%s: build %+v %+v", name, rep, f)
		}
		if l, f := build.Affected(build.New(), j); f != c.want || c.want != none && l != nil {
			t.Errorf("%s: affected %v %+v", name, l, f)
		}
	}
}

// manyWants are so many wanted outputs.
func manyWants(n int) []build.Want {
	var l []build.Want
	for i := range n {
		l = append(l, build.Want{Path: fmt.Sprintf("w%06d", i), Template: "a"})
	}
	return l
}

// P9.1: at most MaxWants outputs are wanted; that is looked at after all of them, and before copies.
func TestCheckJobMany(t *testing.T) {
	j := fullJob()
	j.Wants = manyWants(build.MaxWants)
	same(t, "many", build.CheckJob(j), none)
	j.Wants = manyWants(build.MaxWants + 1)
	same(t, "too many", build.CheckJob(j), at("", api.ErrLarge))
	j.Copies[0].Path = ""
	same(t, "too many, and a copy", build.CheckJob(j), at("", api.ErrLarge))
	j.Wants[build.MaxWants].Template = ""
	same(t, "too many, and no template", build.CheckJob(j), at("w000400", api.ErrNone))
}

// checked is CheckJob, as the chapter has it word by word.
func checked(j build.Job) build.Fault {
	if tmpl.Check(j.Set).E != api.OK {
		return at("", api.ErrSyntax)
	}
	for i, f := range j.Facts {
		if i > 0 && j.Facts[i-1].Name >= f.Name {
			return at("", api.ErrOrder)
		}
		if strings.HasPrefix(f.Name, "content:") || strings.HasPrefix(f.Name, "template:") {
			return at("", api.ErrForm)
		}
	}
	for i, b := range j.Bodies {
		if _, e := page.Resolve(b.Address, ""); e != api.OK {
			return at(b.Address, api.ErrPath)
		}
		if i > 0 && j.Bodies[i-1].Address >= b.Address {
			return at(b.Address, api.ErrOrder)
		}
		if b.Words < 0 || b.Words > 20_000 {
			return at(b.Address, api.ErrRange)
		}
	}
	for i, w := range j.Wants {
		if tree.CheckPath(w.Path) != api.OK {
			return at(w.Path, api.ErrPath)
		}
		if i > 0 && j.Wants[i-1].Path >= w.Path {
			return at(w.Path, api.ErrOrder)
		}
		if slices.ContainsFunc(j.Wants[i+1:], func(x build.Want) bool { return strings.HasPrefix(x.Path, w.Path+"/") }) {
			return at(w.Path, api.ErrTwice)
		}
		if !slices.ContainsFunc(j.Set, func(s tmpl.Source) bool { return s.Name == w.Template }) {
			return at(w.Path, api.ErrNone)
		}
	}
	if len(j.Wants) > 400 {
		return at("", api.ErrLarge)
	}
	nested := func(a, b string) bool { return strings.HasPrefix(a, b+"/") || strings.HasPrefix(b, a+"/") }
	for i, c := range j.Copies {
		if tree.CheckPath(c.Path) != api.OK {
			return at(c.Path, api.ErrPath)
		}
		if i > 0 && j.Copies[i-1].Path >= c.Path {
			return at(c.Path, api.ErrOrder)
		}
		if slices.ContainsFunc(j.Wants, func(w build.Want) bool { return w.Path == c.Path || nested(w.Path, c.Path) }) {
			return at(c.Path, api.ErrTwice)
		}
		if slices.ContainsFunc(j.Copies, func(x api.Out) bool { return nested(x.Path, c.Path) }) {
			return at(c.Path, api.ErrTwice)
		}
		if len(c.Body) > 200_000 {
			return at(c.Path, api.ErrLarge)
		}
	}
	return none
}

var somePaths = words("a a-b a.b a/b a/b/c a/b0 a/c aa b b/c b/c/d c c/d/e x/y/z z /a a/ a//b a/../b A é") // some are none

func anyPath(r *rand.Rand) string {
	if r.Intn(60) == 0 {
		return ""
	}
	return somePaths[r.Intn(len(somePaths)-r.Intn(2)*7)]
}

// anyPaths are some paths, most often rising.
func anyPaths(r *rand.Rand, most int) []string {
	var l []string
	for range r.Intn(most + 1) {
		l = append(l, anyPath(r))
	}
	if r.Intn(6) > 0 {
		slices.Sort(l)
		l = slices.Compact(l)
	}
	return l
}

// P9.1: random jobs.
func TestCheckJobRandom(t *testing.T) {
	r := rand.New(rand.NewSource(1))
	seen := map[api.Errno]int{}
	for range 60_000 {
		j := build.Job{Set: set("a", "A")}
		for _, name := range anyPaths(r, 2) {
			j.Facts = append(j.Facts, api.Named{Name: []string{"content:", "template:", "", "", "", "", "", ""}[r.Intn(8)] + name})
		}
		for _, path := range anyPaths(r, 2) {
			j.Bodies = append(j.Bodies, build.Body{Address: "/" + path + "/", Words: []int{0, 1, 20_000, -1, 20_001}[r.Intn(3+r.Intn(2)*r.Intn(2)*2)]})
		}
		for _, path := range anyPaths(r, 3) {
			j.Wants = append(j.Wants, build.Want{Path: path, Template: []string{"a", "a", "a", "a", "b"}[r.Intn(5)]})
		}
		for _, path := range anyPaths(r, 3) {
			j.Copies = append(j.Copies, api.Out{Path: path})
		}
		got, want := build.CheckJob(j), checked(j)
		if got != want {
			t.Fatalf("%+v: %+v, not %+v", j, got, want)
		}
		seen[got.E]++
	}
	for _, e := range []api.Errno{api.OK, api.ErrOrder, api.ErrForm, api.ErrPath, api.ErrRange, api.ErrTwice, api.ErrNone} {
		if seen[e] < 1000 {
			t.Errorf("error %d: %d times", e, seen[e])
		}
	}
}
