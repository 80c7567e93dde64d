package build_test

import (
	"fmt"
	"slices"
	"strings"
	"testing"

	"masthead/api"
	"masthead/asset"
	"masthead/build"
	"masthead/conf"
	"masthead/lang"
	"masthead/tmpl"
)

// others are files that are none of one folder, whatever is wrong with them.
func others(folder string) []api.File {
	var l []api.File
	for _, path := range words("template/A string/EN asset/.. content//") {
		if !strings.HasPrefix(path, folder) {
			l = append(l, files(path, "\x00", path, "\x00")...)
		}
	}
	return append(l, files(folder, "{{", strings.ToUpper(folder)+"/x", "{{", "x/"+folder+"/y", "{{", folder+"s/x", "{{", "", "", "/"+folder+"/a", "")...)
}

// P9.7: the templates, by name; that is another order than that of paths.
func TestTemplates(t *testing.T) {
	l := files("template/b.html", "B", "template/a/b.html", "AB", "template/a.html", "A", "template/a-b.html", "{{ call \"a/b\" . }}", "template/a/b/c_9-.html", "")
	want := set("a", "A", "a-b", `{{ call "a/b" . }}`, "a/b", "AB", "a/b/c_9-", "", "b", "B")
	for range 2 {
		got, f := build.Templates(append(slices.Clone(l), others("template")...))
		if f != none || show(got) != show(want) {
			t.Errorf("%v %+v", got, f)
		}
		slices.Reverse(l)
	}
	got, f := build.Templates(nil)
	if f != none || got != nil {
		t.Errorf("of nothing: %v %+v", got, f)
	}
	got, f = build.Templates(others("template"))
	if f != none || got != nil {
		t.Errorf("of others: %v %+v", got, f)
	}
	long := strings.Repeat("abcdefghijklmnopqrst/", 3)[:60]
	if got, f = build.Templates(files("template/"+long[:59]+".html", "")); f != none || len(got) != 1 {
		t.Errorf("a long name: %v %+v", got, f)
	}
}

// P9.7: what is wrong with templates.
func TestTemplatesFaults(t *testing.T) {
	for name, c := range map[string]struct {
		files []api.File
		want  build.Fault
	}{
		"twice":                {files("template/b.html", "", "template/a.html", "", "template/a.html", "x"), at("template/a.html", api.ErrTwice)},
		"no end":               {files("template/a", ""), at("template/a", api.ErrPath)},
		"another end":          {files("template/a.htm", ""), at("template/a.htm", api.ErrPath)},
		"no name":              {files("template/.html", ""), at("template/.html", api.ErrPath)},
		"nothing":              {files("template/", ""), at("template/", api.ErrPath)},
		"a great letter":       {files("template/aB.html", ""), at("template/aB.html", api.ErrPath)},
		"a point":              {files("template/a.b.html", ""), at("template/a.b.html", api.ErrPath)},
		"two ends":             {files("template/a.html.html", ""), at("template/a.html.html", api.ErrPath)},
		"an empty part":        {files("template/a//b.html", ""), at("template/a//b.html", api.ErrPath)},
		"a part too long":      {files("template/abcdefghijklmnopqrstu.html", ""), at("template/abcdefghijklmnopqrstu.html", api.ErrPath)},
		"too long":             {files("template/"+strings.Repeat("abcde/", 10)+"a.html", ""), at("template/"+strings.Repeat("abcde/", 10)+"a.html", api.ErrPath)},
		"syntax":               {files("template/a.html", "{{"), at("template/a.html", api.ErrSyntax)},
		"a byte":               {files("template/a/b.html", "\x00"), at("template/a/b.html", api.ErrByte)},
		"context":              {files("template/a.html", "<a"), at("template/a.html", api.ErrContext)},
		"a call":               {files("template/a.html", "", "template/b.html", `{{ call "c" . }}`), at("template/b.html", api.ErrNone)},
		"too large":            {files("template/a.html", wide(tmpl.MaxText+1)), at("template/a.html", api.ErrLarge)},
		"twice before a path":  {files("template/a", "", "template/a", ""), at("template/a", api.ErrPath)},
		"path before twice":    {files("template/b.html", "", "template/b.html", "", "template/a", ""), at("template/a", api.ErrPath)},
		"path before syntax":   {files("template/a.html", "{{", "template/b", ""), at("template/b", api.ErrPath)},
		"twice before syntax":  {files("template/a.html", "{{", "template/b.html", "", "template/b.html", ""), at("template/b.html", api.ErrTwice)},
		"in order of the set":  {files("template/a.html", "{{", "template/a-b.html", "\x00"), at("template/a.html", api.ErrSyntax)},
		"in order of paths":    {files("template/a.htm", "", "template/a-b.htm", ""), at("template/a-b.htm", api.ErrPath)},
		"the first one of two": {files("template/b.html", "\x00", "template/a.html", "{{"), at("template/a.html", api.ErrSyntax)},
	} {
		got, f := build.Templates(append(c.files, others("template")...))
		if f != c.want || got != nil {
			t.Errorf("%s: %v %+v", name, got, f)
		}
	}
	var l []api.File
	for i := range tmpl.MaxTemplates + 1 {
		l = append(l, files(fmt.Sprintf("template/t%d.html", i), "")...)
	}
	if _, f := build.Templates(l[1:]); f != none {
		t.Errorf("as many as can be: %+v", f)
	}
	l[0].Body = "{{"
	if got, f := build.Templates(l); f != at("", api.ErrLarge) || got != nil {
		t.Errorf("too many: %v %+v", got, f)
	}
}

// P9.7: the languages, in order of their paths.
func TestStrings(t *testing.T) {
	english, german := `strings { hi "Hello"; n "{n, count, 0 {one} other {#}}" }; plural "n=1"`, `parent "en"; group "."`
	l := files("string/en.set", english, "string/de.set", german, "string/abcdefgh.set", "")
	got, f := build.Strings(append(l, others("string")...))
	want := []lang.Language{{Name: "abcdefgh"}, {Name: "de"}, {Name: "en"}}
	for i, body := range []string{"", german, english} {
		v, _, _ := conf.Parse(body)
		want[i], _ = lang.ReadLanguage(want[i].Name, v)
	}
	if f != none || show(got) != show(want) {
		t.Errorf("%v %+v", got, f)
	}
	for name, l := range map[string][]api.File{"nothing": nil, "others": others("string")} {
		if got, f := build.Strings(l); f != none || got != nil {
			t.Errorf("of %s: %v %+v", name, got, f)
		}
	}
}

// P9.7: what is wrong with languages.
func TestStringsFaults(t *testing.T) {
	many := files()
	for c := range "abcdefghi" {
		many = append(many, files("string/"+"abcdefghi"[c:c+1]+".set", "")...)
	}
	for name, c := range map[string]struct {
		files []api.File
		want  build.Fault
	}{
		"twice":                 {files("string/en.set", "", "string/de.set", "", "string/en.set", "x 1"), at("string/en.set", api.ErrTwice)},
		"no end":                {files("string/en", ""), at("string/en", api.ErrPath)},
		"no name":               {files("string/.set", ""), at("string/.set", api.ErrPath)},
		"nothing":               {files("string/", ""), at("string/", api.ErrPath)},
		"great letters":         {files("string/EN.set", ""), at("string/EN.set", api.ErrPath)},
		"a digit":               {files("string/e1.set", ""), at("string/e1.set", api.ErrPath)},
		"below":                 {files("string/x/en.set", ""), at("string/x/en.set", api.ErrPath)},
		"too long":              {files("string/abcdefghi.set", ""), at("string/abcdefghi.set", api.ErrPath)},
		"syntax":                {files("string/en.set", "a"), at("string/en.set", api.ErrSyntax)},
		"a key twice":           {files("string/en.set", "parent \"de\"; parent \"de\""), at("string/en.set", api.ErrTwice)},
		"another key":           {files("string/en.set", "x 1"), at("string/en.set", api.ErrName)},
		"a kind":                {files("string/en.set", "parent 1"), at("string/en.set", api.ErrKind)},
		"a parent of its own":   {files("string/en.set", `parent "en"`), at("string/en.set", api.ErrName)},
		"no parent":             {files("string/en.set", `parent "de"`), at("", api.ErrNone)},
		"a ring":                {files("string/en.set", `parent "de"`, "string/de.set", `parent "en"`), at("", api.ErrLoop)},
		"too many":              {many, at("", api.ErrLarge)},
		"path before twice":     {files("string/a", "", "string/b.set", "", "string/b.set", ""), at("string/a", api.ErrPath)},
		"twice before path":     {files("string/b", "", "string/a.set", "", "string/a.set", ""), at("string/a.set", api.ErrTwice)},
		"syntax before path":    {files("string/b", "", "string/a.set", "a"), at("string/a.set", api.ErrSyntax)},
		"a name before a chain": {files("string/a.set", `parent "x"`, "string/b.set", "x 1"), at("string/b.set", api.ErrName)},
		"syntax before twice":   {files("string/a.set", "a", "string/a.set", ""), at("string/a.set", api.ErrSyntax)},
	} {
		got, f := build.Strings(append(c.files, others("string")...))
		if f != c.want || got != nil {
			t.Errorf("%s: %v %+v", name, got, f)
		}
	}
}

// P9.7: the assets, with their new names.
func TestAssets(t *testing.T) {
	l := files("asset/m.style", "a { b: url('c/i.image') ; }", "asset/c/i.image", "image 1 1\n0\n", "asset/c.txt", "", "asset/c-d", "x")
	for _, small := range []bool{false, true} {
		var inner []api.File
		for _, f := range l {
			inner = append(inner, api.File{Path: strings.TrimPrefix(f.Path, "asset/"), Body: f.Body})
		}
		made, _ := asset.Process(inner, small)
		byName := map[string]asset.Made{}
		for _, m := range made {
			byName[m.Path] = m
		}
		fact := func(name string) api.Value {
			return table("path", text(byName[name].Name), "url", text("/"+byName[name].Name))
		}
		wantFacts := named("asset:c-d", fact("c-d"), "asset:c.txt", fact("c.txt"), "asset:c/i.image", fact("c/i.image"), "asset:m.style", fact("m.style"))
		var wantOuts []api.Out
		for _, name := range words("c-d c.txt c/i.image m.style") {
			wantOuts = append(wantOuts, api.Out{Path: byName[name].Name, Body: byName[name].Body})
		}
		facts, outs, f := build.Assets(append(slices.Clone(l), others("asset")...), small)
		if f != none || show(facts) != show(wantFacts) || show(outs) != show(wantOuts) {
			t.Errorf("%v %v %+v", facts, outs, f)
		}
		if body := outs[3].Body; strings.Contains(body, " ;") == small || !strings.Contains(body, "'/c/i.") {
			t.Errorf("small %v: %s", small, body)
		}
	}
	if facts, outs, f := build.Assets(others("asset"), true); f != none || facts != nil || outs != nil {
		t.Errorf("of others: %v %v %+v", facts, outs, f)
	}
}

// P9.7: outputs are in the order of their names, which is another one than that of the files.
func TestAssetsOrder(t *testing.T) {
	got, outs, f := build.Assets(files("asset/a.z", "1", "asset/a.z/b", "2", "asset/a.b.c", "3", "asset/a", "4", "asset/a-b", "5"), false)
	same(t, "names", names(got), words("asset:a asset:a-b asset:a.b.c asset:a.z asset:a.z/b"))
	paths := []string{}
	for _, out := range outs {
		paths = append(paths, out.Path)
	}
	if f != none || !slices.IsSorted(paths) || len(paths) != 5 {
		t.Errorf("%v %+v", paths, f)
	}
	moved := false
	for i, out := range outs {
		url := got[i].Value.Items[1]
		moved = moved || url.Text != "/"+out.Path
	}
	if !moved {
		t.Error("the order is that of the files")
	}
}

// P9.7: what is wrong with assets.
func TestAssetsFaults(t *testing.T) {
	var many []api.File
	for i := range api.MaxFiles + 1 {
		many = append(many, files(fmt.Sprintf("asset/%03d", i), "")...)
	}
	for name, c := range map[string]struct {
		files []api.File
		want  build.Fault
	}{
		"no path":        {files("asset/a", "", "asset/A", ""), at("asset/A", api.ErrPath)},
		"no name":        {files("asset/", ""), at("", api.ErrPath)},
		"twice":          {files("asset/a", "", "asset/b", "", "asset/a", ""), at("asset/a", api.ErrTwice)},
		"a string":       {files("asset/x/a.style", "\"", "asset/b.script", "\x00"), at("asset/b.script", api.ErrByte)},
		"a comment":      {files("asset/x/a.style", "/*"), at("asset/x/a.style", api.ErrSyntax)},
		"a ring":         {files("asset/a.style", "url('a.style')"), at("asset/a.style", api.ErrLoop)},
		"a large body":   {files("asset/a", "", "asset/b", wide(api.MaxBody+1)), at("", api.ErrLarge)},
		"too many files": {many, at("", api.ErrLarge)},
	} {
		facts, outs, f := build.Assets(append(c.files, others("asset")...), false)
		if f != c.want || facts != nil || outs != nil {
			t.Errorf("%s: %v %v %+v", name, facts, outs, f)
		}
	}
}
