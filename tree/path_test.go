package tree_test

import (
	"fmt"
	"math/rand"
	"regexp"
	"strings"
	"testing"

	"masthead/api"
	"masthead/tree"
)

// long is a path with so many bytes, in parts of at most 40.
func long(bytes int) string {
	s := strings.Repeat(strings.Repeat("x", api.MaxPart-1)+"/", bytes/api.MaxPart+1)[:bytes]
	if strings.HasSuffix(s, "/") {
		s = s[:bytes-2] + "xx"
	}
	return s
}

// P3.1: CheckPath and CheckAddress.
func TestPaths(t *testing.T) {
	for s, want := range map[string]bool{
		"a": true, "a/b.c": true, "0": true, "-": true, "_": true, "...": true, ".a": true, "a.": true, "a/.../b": true, "a-b_c.d/0": true, strings.Repeat("x", 40): true, strings.Repeat("x/", 99) + "yz": true, long(200): true,
		"": false, "/": false, "a/": false, "/a": false, "a//b": false, ".": false, "..": false, "a/./b": false, "a/../b": false, "../a": false, "A": false, "aB": false, "a b": false, " a": false, "a\n": false, "a#b": false, "ä": false, "a\x00": false, "\xff": false, strings.Repeat("x", 41): false, "a/" + strings.Repeat("x", 41): false, long(201): false, strings.Repeat("x/", 100) + "y": false, strings.Repeat("/", 1_000_000): false,
	} {
		wantError := api.OK
		if !want {
			wantError = api.ErrPath
		}
		if e := tree.CheckPath(s); e != wantError {
			t.Errorf("CheckPath(%q) (%d bytes): error %d, want %d", s, len(s), e, wantError)
		}
		if s != "" {
			if e := tree.CheckAddress("/" + s + "/"); e != wantError {
				t.Errorf("CheckAddress(\"/%s/\"): error %d, want %d", s, e, wantError)
			}
		}
	}
	for s, want := range map[string]api.Errno{"/": api.OK, "": api.ErrPath, "//": api.ErrPath, "///": api.ErrPath, "a": api.ErrPath, "/a": api.ErrPath, "a/": api.ErrPath, "/a/": api.OK, "/a//": api.ErrPath, "//a/": api.ErrPath, "a/b/": api.ErrPath, "/index.html/": api.OK, "/a/#": api.ErrPath} {
		if e := tree.CheckAddress(s); e != want {
			t.Errorf("CheckAddress(%q): error %d, want %d", s, e, want)
		}
	}
}

// P3.1: the bytes that a part may have.
func TestPathBytes(t *testing.T) {
	for c := range 256 {
		want := api.ErrPath
		if strings.Contains("abcdefghijklmnopqrstuvwxyz0123456789-_.", string(rune(c))) && c < 128 {
			want = api.OK
		}
		if e := tree.CheckPath("a" + string([]byte{byte(c)}) + "a"); c != '/' && e != want {
			t.Errorf("byte %d: error %d, want %d", c, e, want)
		}
	}
}

// P3.2: Slug.
func TestSlug(t *testing.T) {
	for s, want := range map[string]string{
		"": "", "-": "", "  ": "", "é": "", "a": "a", "A": "a", "Z9": "z9", "C++ & Go!": "c-go", "--a--b--": "a-b", "a.b_c": "a-b-c", "aéb": "a-b", "a\x00\xffb": "a-b", "[`{@": "",
		strings.Repeat("a", 40): strings.Repeat("a", 40), strings.Repeat("a", 41): strings.Repeat("a", 40), strings.Repeat("a", 39) + " b": strings.Repeat("a", 39), strings.Repeat("a", 38) + " bc": strings.Repeat("a", 38) + "-b", strings.Repeat("a", 40) + " b": strings.Repeat("a", 40), " " + strings.Repeat("B", 40): strings.Repeat("b", 40), strings.Repeat("ab ", 20): strings.Repeat("ab-", 13) + "a",
	} {
		if got := tree.Slug(s); got != want {
			t.Errorf("Slug(%q): %q, want %q", s, got, want)
		}
	}
}

// P3.2: Slug of any string.
func TestRandomSlugs(t *testing.T) {
	r := rand.New(rand.NewSource(1))
	others := regexp.MustCompile(`[^a-z0-9]+`)
	for range 20_000 {
		b := make([]byte, r.Intn(60))
		for i := range b {
			b[i] = "aZz0 -_.\xe9\n"[r.Intn(10)]
		}
		want := strings.Trim(others.ReplaceAllString(strings.ReplaceAll(string(b), "Z", "z"), "-"), "-")
		want = strings.TrimSuffix(want[:min(len(want), api.MaxPart)], "-")
		got := tree.Slug(string(b))
		if got != want || tree.Slug(got) != got || got != "" && tree.CheckPath(got) != api.OK {
			t.Fatalf("Slug(%q): %q, want %q", b, got, want)
		}
	}
}

// P3.2: TitleOf.
func TestTitleOf(t *testing.T) {
	for s, want := range map[string]string{"": "", "a": "A", "my-first_post.x": "My first post x", "-a": " a", "a--b": "A  b", "0a": "0a", "Ab": "Ab", "z z": "Z z", "éa": "éa", "\xffa": "\xffa", "{": "{", "`": "`", "a/b": "A/b"} {
		if got := tree.TitleOf(s); got != want {
			t.Errorf("TitleOf(%q): %q, want %q", s, got, want)
		}
	}
}

// P3.1, P3.2: the errors of languages come first, in all functions with languages.
func TestLanguages(t *testing.T) {
	eight := []string{"a", "b", "c", "d", "e", "f", "g", "h"}
	for _, l := range [][]string{{"en"}, {"de", "en"}, eight, {"abcdefgh"}, {"z"}} {
		if f := tree.CheckSources(nil, l); f != (tree.Fault{}) {
			t.Errorf("%q: %+v", l, f)
		}
		if s, f := tree.Publish(nil, l, 0); f != (tree.Fault{}) || fmt.Sprint(s.Languages) != fmt.Sprint(l) {
			t.Errorf("%q: %+v", l, f)
		}
	}
	many := make([]api.File, api.MaxFiles+1)
	for _, l := range [][]string{nil, {}, {""}, {"en", "en"}, {"a", "b", "a"}, {"En"}, {"e1"}, {"e-n"}, {"é"}, {"abcdefghi"}, append(eight, "i"), {"en", " "}} {
		_, f := tree.Read(many, l)
		expectFault(t, fmt.Sprintf("Read with %q", l), f, "", api.ErrName)
		expectFault(t, fmt.Sprintf("CheckSources with %q", l), tree.CheckSources(make([]tree.Source, api.MaxFiles+1), l), "", api.ErrName)
		v, hidden, f := tree.Effective(make([]tree.Source, 1), l, -1)
		expectFault(t, fmt.Sprintf("Effective with %q", l), f, "", api.ErrName, len(v), len(hidden))
		s, f := tree.Publish(make([]tree.Source, 1), l, -1)
		expectFault(t, fmt.Sprintf("Publish with %q", l), f, "", api.ErrName, len(s.Languages), len(s.Pages))
		if e := tree.CheckSite(tree.Site{Languages: l, Pages: make([]tree.Page, tree.MaxPages+1)}); e != api.ErrName {
			t.Errorf("CheckSite with %q: error %d", l, e)
		}
	}
}
