package asset_test

import (
	"fmt"
	"math"
	"math/rand"
	"reflect"
	"slices"
	"strings"
	"sync"
	"testing"
	"time"

	"masthead/api"
	"masthead/asset"
)

// arguments are those of all calls of callAll.
type arguments struct {
	body, path, code, digits, text, picture string
	kind, at, width, height                 int
	files                                   []api.File
	bundled                                 asset.Bundled
	tokens                                  []asset.Token
	names                                   []asset.Name
	small                                   bool
	image                                   asset.Image
	want                                    asset.Want
	cut                                     asset.Cut
	widths                                  []int
}

// results are all that calls return.
type results struct {
	digest, print, plain, digits string
	kind                         int
	bundles                      [2]asset.Bundled // made, and read
	located                      [2]int
	mapped, encoded, decoded     string
	tokens                       [2][]asset.Token // of a style, and of a script
	positions                    [5]int
	joined, minified, relinked   string
	smaller                      []asset.Token
	links                        []asset.Link
	made                         []asset.Made
	fault                        asset.Fault
	images                       [2]asset.Image // read, and rendered
	picture                      string
	cut                          asset.Cut
	sources                      string
	found                        bool
	errors                       []api.Errno
}

// callAll calls each function.
func callAll(a arguments) results {
	var r results
	var e [20]api.Errno
	r.digest, r.kind = asset.Digest(a.body), asset.KindOf(a.path)
	r.plain, r.digits, r.found = asset.Plain(a.path)
	r.print, e[0] = asset.Fingerprint(a.path, a.body)
	r.bundles[0], e[1] = asset.Bundle(a.files)
	r.located[0], r.located[1], e[2] = asset.Locate(a.bundled, a.at)
	r.mapped, e[3] = asset.MapString(a.bundled)
	r.bundles[1], e[4] = asset.ReadMap(a.text)
	r.encoded, e[5] = asset.Encode64(a.body)
	r.decoded, e[6] = asset.Decode64(a.digits)
	r.tokens[0], r.positions[0], e[7] = asset.StyleTokens(a.code)
	r.tokens[1], r.positions[1], e[8] = asset.ScriptTokens(a.code)
	r.joined, e[9] = asset.TokenString(a.tokens)
	r.smaller, e[10] = asset.Smaller(a.kind, a.tokens)
	r.minified, r.positions[2], e[11] = asset.Minify(a.kind, a.code)
	r.links, r.positions[3], e[12] = asset.Links(a.code)
	r.relinked, r.positions[4], e[13] = asset.Relink(a.code, a.names)
	r.made, r.fault = asset.Process(a.files, a.small)
	e[14] = r.fault.E
	r.images[0], e[15] = asset.ReadImage(a.picture)
	r.picture, e[16] = asset.ImageString(a.image)
	r.cut, e[17] = asset.Plan(a.width, a.height, a.want)
	r.images[1], e[18] = asset.Render(a.image, a.cut)
	r.sources, e[19] = asset.SourceSet("/"+a.path, a.width, a.widths)
	r.errors = append(e[:], asset.CheckImage(a.image))
	return r
}

var strange = []string{"", "a", "a.style", "b/a.style", "c.script", "a.0123456789ab.b", "d.image", ".", "..", "/", "a/", "../a", "A", "x y", "\x00", "\xff", "\n", "a 1\n", "a 1\nb v\n", "a 01\n", "YQ", "YWJj", "A", "image 1 1\n0\n", "image 2 1\n0f\n", "image 0 0\n", wide(41), wide(30), "url('a.style')", "url('c.script')", "/*", "'"}

func anyText(r *rand.Rand) string {
	s := strange[r.Intn(len(strange))]
	if r.Intn(3) == 0 {
		s += strange[r.Intn(len(strange))]
	}
	return s
}

func anyNumber(r *rand.Rand) int {
	return []int{0, 1, 1, 2, 3, 9, 64, -1, 65, math.MinInt, math.MaxInt}[r.Intn(11)]
}

// some are so many of something, or fewer.
func some[T any](r *rand.Rand, most int, one func() T) []T {
	var l []T
	for range r.Intn(most + 1) {
		l = append(l, one())
	}
	return l
}

// anyArguments are arguments that are right or not.
func anyArguments(r *rand.Rand) arguments {
	number := func() int { return anyNumber(r) }
	text := func() string { return anyText(r) }
	a := arguments{body: text(), path: text(), code: randomCode(r, 10), digits: text(), text: text(), picture: text(), kind: r.Intn(4), at: number(), width: number(), height: number(), small: r.Intn(2) == 0}
	a.files = some(r, 4, func() api.File { return api.File{Path: text(), Body: randomCode(r, 4) + text()} })
	a.bundled = asset.Bundled{Body: text(), Parts: some(r, 2, text), Ends: some(r, 2, number)}
	if r.Intn(2) == 0 {
		a.bundled, _ = asset.Bundle(a.files)
	}
	a.tokens = some(r, 5, func() asset.Token { return asset.Token{Kind: 1 + r.Intn(3), Text: pieces[r.Intn(len(pieces))]} })
	if r.Intn(3) == 0 {
		a.tokens = append(a.tokens, blank(), asset.Token{Kind: anyNumber(r), Text: text()})
	}
	a.names = some(r, 3, func() asset.Name { return asset.Name{Path: string("pqrs"[r.Intn(4)]), Name: text()} })
	a.image = anyGray(r)
	if r.Intn(3) == 0 {
		a.image = gray(number(), number(), some(r, 4, number)...)
	}
	a.want = asset.Want{Way: r.Intn(6), Width: number(), Height: number()}
	a.cut = asset.Cut{X: number(), Y: number(), Width: number(), Height: number(), ToWidth: number(), ToHeight: number()}
	if r.Intn(2) == 0 {
		a.cut = asset.Cut{Width: a.image.Width, Height: a.image.Height, ToWidth: 1, ToHeight: 1}
	}
	a.widths = some(r, 3, number)
	return a
}

// Z1: no call panics, whatever it is given.
func TestNothingPanics(t *testing.T) {
	r := rand.New(rand.NewSource(16))
	for range 20_000 {
		callAll(anyArguments(r))
	}
	for _, long := range []string{strings.Repeat("a ", 500_000), strings.Repeat("a/", 500_000), strings.Repeat("'", 1_000_001), strings.Repeat("../", 300_000)} {
		callAll(arguments{body: long, path: long, code: long, digits: long, text: long, picture: long, kind: asset.Style, files: files("a.style", "url('"+long[:api.MaxBody-10]+"')", long, long),
			bundled: asset.Bundled{Body: long, Parts: []string{long}, Ends: []int{len(long)}}, tokens: slices.Repeat(tokens(word(long)), 1000), names: names("p", long, long, long)})
	}
	const many = 1_000_000
	callAll(arguments{files: make([]api.File, many), bundled: asset.Bundled{Parts: make([]string, many), Ends: make([]int, many)}, tokens: make([]asset.Token, many), names: make([]asset.Name, many), kind: asset.Script,
		image: gray(64, 64, make([]int, many)...), path: "a", width: 1, widths: make([]int, many)})
	for _, m := range []asset.Image{gray(math.MaxInt, 2), gray(math.MinInt, math.MinInt), gray(1<<32, 1<<32)} {
		callAll(arguments{image: m})
	}
}

// full are arguments with which each function returns something.
func full() arguments {
	return arguments{
		body: "b", path: "d.0123456789ab.e", code: "a { b : url('p') ; } 'x'", digits: "abcd", text: "a 1\nb v\n", picture: "image 2 1\n0f\n", kind: asset.Style, at: 2, width: 9, height: 6, small: true,
		files:   files("d.image", "i", "b/c.style", "url('../d.image') ;", "a.script", "a + b"),
		bundled: bundled("xy\nz\n", "a", 1, "b", 5),
		tokens:  tokens(blank(), word("a"), blank(), mark("{"), str("'x'"), mark(";"), mark("}")),
		names:   names("p", "q", "r", "s"),
		image:   gray(3, 2, 0, 15, 3, 4, 10, 6),
		want:    asset.Want{Way: asset.Fill, Width: 3, Height: 3},
		cut:     asset.Cut{X: 1, Width: 2, Height: 2, ToWidth: 1, ToHeight: 2},
		widths:  []int{1, 2, 10},
	}
}

// span is the memory of a list, with what is after its length.
type span struct {
	from, to uintptr
	where    string
}

// spans are those of all lists in a value.
func spans(v reflect.Value, where string) []span {
	var l []span
	switch v.Kind() {
	case reflect.Struct:
		for i := range v.NumField() {
			l = append(l, spans(v.Field(i), where+"."+v.Type().Field(i).Name)...)
		}
	case reflect.Slice, reflect.Array:
		if v.Kind() == reflect.Slice && v.Cap() > 0 {
			l = append(l, span{v.Pointer(), v.Pointer() + uintptr(v.Cap())*v.Type().Elem().Size(), where})
		}
		for i := range v.Len() {
			l = append(l, spans(v.Index(i), fmt.Sprint(where, ".", i))...)
		}
	}
	return l
}

// Z2: arguments stay as they are, and results are in memory of their own, no two lists of them in the same.
func TestArgumentsAndResults(t *testing.T) {
	a := full()
	before := show(a)
	r := callAll(a)
	if slices.ContainsFunc(r.errors, func(e api.Errno) bool { return e != api.OK }) || !r.found {
		t.Fatalf("errors %v", r.errors)
	}
	if after := show(a); after != before {
		t.Errorf("the arguments have changed:\n%s\n%s", before, after)
	}
	if got, want := show(callAll(a)), show(callAll(full())); got != want {
		t.Errorf("other results the second time:\n%s\n%s", want, got)
	}
	results := spans(reflect.ValueOf(r), "result")
	if len(results) < 12 {
		t.Errorf("only %d lists", len(results))
	}
	arguments := spans(reflect.ValueOf(a), "argument")
	for i, x := range results {
		for _, y := range slices.Concat(results[:i], arguments) {
			if x.from < y.to && y.from < x.to {
				t.Errorf("%s and %s share memory", x.where, y.where)
			}
		}
	}
}

// roomy is a list with something behind it, and whether that is still there.
func roomy[T any](l []T, behind T) ([]T, func() bool) {
	l = append(slices.Clone(l), behind)[:len(l)]
	return l, func() bool { return reflect.DeepEqual(l[:len(l)+1][len(l)], behind) }
}

// Z2: what is after the length of a list stays as it is.
func TestBehindLists(t *testing.T) {
	a := full()
	var same [7]func() bool
	a.files, same[0] = roomy(a.files, api.File{Path: "behind"})
	a.bundled.Parts, same[1] = roomy(a.bundled.Parts, "behind")
	a.bundled.Ends, same[2] = roomy(a.bundled.Ends, 77)
	a.tokens, same[3] = roomy(a.tokens, word("behind"))
	a.names, same[4] = roomy(a.names, asset.Name{Path: "behind"})
	a.image.Levels, same[5] = roomy(a.image.Levels, 77)
	a.widths, same[6] = roomy(a.widths, 77)
	if got, want := show(callAll(a)), show(callAll(full())); got != want {
		t.Errorf("what is behind lists counts:\n%s\n%s", got, want)
	}
	for i, same := range same {
		if !same() {
			t.Errorf("what is behind list %d has changed", i)
		}
	}
}

// Z3: beside an error, and beside a false, all is zero, but positions in code and the fault's Path.
func TestErrorsAlone(t *testing.T) {
	r := rand.New(rand.NewSource(17))
	var seen [21]int
	for range 20_000 {
		x := callAll(anyArguments(r))
		no, none := show(asset.Bundled{}), show(asset.Image{})
		zero := []bool{x.print == "", show(x.bundles[0]) == no, x.located == [2]int{}, x.mapped == "", show(x.bundles[1]) == no, x.encoded == "", x.decoded == "", x.tokens[0] == nil, x.tokens[1] == nil, x.joined == "", x.smaller == nil,
			x.minified == "", x.links == nil, x.relinked == "", x.made == nil, show(x.images[0]) == none, x.picture == "", x.cut == asset.Cut{}, show(x.images[1]) == none, x.sources == "", true}
		for i, e := range x.errors {
			if e != api.OK && !zero[i] {
				t.Fatalf("result %d beside error %d: %+v", i, e, x)
			}
			if e != api.OK {
				seen[i]++
			}
		}
		for i, at := range x.positions {
			if e := x.errors[[]int{7, 8, 11, 12, 13}[i]]; e != api.ErrByte && e != api.ErrSyntax && at != 0 {
				t.Fatalf("position %d: %d beside error %d", i, at, e)
			}
		}
		if !x.found && x.plain+x.digits != "" || x.fault.E == api.OK && x.fault != (asset.Fault{}) {
			t.Fatalf("%+v", x)
		}
	}
	seen[5] = 100 // only large strings cannot be encoded
	if slices.Min(seen[:]) < 100 || slices.Max(seen[:]) > 19_900 {
		t.Errorf("errors of the calls: %v", seen)
	}
	if s, e := asset.Encode64(wide(api.MaxBody + 1)); s != "" || e != api.ErrLarge {
		t.Errorf("%s, error %d", short(s), e)
	}
}

// Z5: empty and nil lists are the same.
func TestEmptyLists(t *testing.T) {
	a := arguments{files: []api.File{}, bundled: asset.Bundled{Parts: []string{}, Ends: []int{}}, tokens: []asset.Token{}, names: []asset.Name{}, kind: asset.Style, image: gray(1, 1, []int{}...), path: "a", width: 1, widths: []int{}}
	b := arguments{kind: asset.Style, image: gray(1, 1), path: "a", width: 1}
	if got, want := show(callAll(a)), show(callAll(b)); got != want {
		t.Errorf("empty lists are not as nil ones are:\n%s\n%s", got, want)
	}
	if r := callAll(b); r.errors[1]+r.errors[3]+r.errors[9]+r.errors[10]+r.errors[13]+r.errors[14]+r.errors[19] != api.OK {
		t.Errorf("%+v", r)
	}
}

// Z7: the same arguments give the same results, in whatever order goroutines run.
func TestSameResults(t *testing.T) {
	r := rand.New(rand.NewSource(18))
	var all []arguments
	var want []string
	for range 300 {
		a := anyArguments(r)
		all, want = append(all, a), append(want, show(callAll(a)))
	}
	var wait sync.WaitGroup
	for range 8 {
		wait.Go(func() {
			for i, a := range all {
				if show(callAll(a)) != want[i] {
					t.Errorf("%+v has other results the second time", a)
				}
			}
		})
	}
	wait.Wait()
}

// Z6: as much of everything as can be.
func TestLargeAssets(t *testing.T) {
	begin := time.Now()
	asset.Digest(strings.Repeat("masthead", 4_000_000))
	var l []api.File
	for i := range api.MaxFiles {
		body := ""
		for j := i + 1; j < api.MaxFiles; j++ {
			body += fmt.Sprintf("url('%03d.style')", j)
		}
		body = strings.Repeat(body, min(50, (api.MaxBody-i)/(len(body)+1)))
		l = append(l, api.File{Path: fmt.Sprintf("%03d.style", i), Body: body + strings.Repeat(";", api.MaxBody-len(body))})
	}
	got, fault := asset.Process(l, true)
	if fault != (asset.Fault{}) || len(got) != api.MaxFiles || got[119].Body != "" || got[118].Body != strings.Repeat("url('/"+got[119].Name+"')", 50) {
		t.Errorf("%+v", fault)
	}
	deep := files("x.style", "url('"+strings.Repeat("a/", 4_990)+strings.Repeat("../", 3_300)+"b')")
	for len(deep) < api.MaxFiles {
		deep = append(deep, api.File{Path: fmt.Sprintf("%d.style", len(deep)), Body: deep[0].Body})
	}
	if got, fault := asset.Process(deep, false); fault != (asset.Fault{}) || got[0].Body != deep[0].Body {
		t.Errorf("%+v", fault)
	}
	for _, s := range []string{strings.Repeat(";", api.MaxBody), strings.Repeat("/**/", api.MaxBody/4), strings.Repeat("''", api.MaxBody/2), strings.Repeat("a;", api.MaxBody/2), strings.Repeat("url(", api.MaxBody/4)} {
		for range 20 {
			asset.Minify(asset.Style, s)
			asset.Minify(asset.Script, s)
			asset.Links(s)
		}
	}
	if took := time.Since(begin); took > 20*time.Second {
		t.Errorf("that took %v", took)
	}
}
