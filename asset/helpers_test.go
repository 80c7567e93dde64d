package asset_test

import (
	"fmt"
	"math/rand"
	"strings"
	"testing"

	"masthead/api"
	"masthead/asset"
)

// wide is a string of so many bytes.
func wide(n int) string { return strings.Repeat("x", n) }

// widePath is a path of so many bytes, in parts of as many as can be.
func widePath(n int) string {
	s := []byte(wide(n))
	for i := api.MaxPart; i < n-1; i += api.MaxPart + 1 {
		s[i] = '/'
	}
	return string(s)
}

// show writes anything as a line; empty and nil lists are the same.
func show(x any) string { return fmt.Sprintf("%+v", x) }

// short is the beginning of a string, for messages.
func short(s string) string {
	if len(s) > 400 {
		return fmt.Sprintf("%q.. (%d bytes)", s[:400], len(s))
	}
	return fmt.Sprintf("%q", s)
}

// expect checks what a call returns with its error.
func expect(t *testing.T, name string, got any, e api.Errno, want any, wantError api.Errno) {
	t.Helper()
	if e != wantError || show(got) != show(want) {
		t.Errorf("%s\n got %s, error %d\nwant %s, error %d", short(name), short(show(got)), e, short(show(want)), wantError)
	}
}

// files are files of paths and bodies, in turn.
func files(l ...string) []api.File {
	var out []api.File
	for i := 0; i < len(l); i += 2 {
		out = append(out, api.File{Path: l[i], Body: l[i+1]})
	}
	return out
}

// numbered are so many files without a body.
func numbered(n int) []api.File {
	var out []api.File
	for i := range n {
		out = append(out, api.File{Path: fmt.Sprintf("f%03d", i)})
	}
	return out
}

// names are names of paths and names, in turn.
func names(l ...string) []asset.Name {
	var out []asset.Name
	for i := 0; i < len(l); i += 2 {
		out = append(out, asset.Name{Path: l[i], Name: l[i+1]})
	}
	return out
}

// word, str, mark and blank are tokens.
func word(s string) asset.Token { return asset.Token{Kind: asset.Word, Text: s} }
func str(s string) asset.Token  { return asset.Token{Kind: asset.Str, Text: s} }
func mark(s string) asset.Token { return asset.Token{Kind: asset.Mark, Text: s} }
func blank() asset.Token        { return asset.Token{Kind: asset.Blank, Text: " "} }

func tokens(l ...asset.Token) []asset.Token { return l }

// printOf is a path with the digits of a body in place of #.
func printOf(path, body string) string {
	return strings.Replace(path, "#", asset.Digest(body)[:12], 1)
}

// gray is an image.
func gray(width, height int, levels ...int) asset.Image {
	return asset.Image{Width: width, Height: height, Levels: levels}
}

// anyGray is an image that is right.
func anyGray(r *rand.Rand) asset.Image {
	m := gray(1+r.Intn(asset.MaxSide), 1+r.Intn(asset.MaxSide))
	if r.Intn(2) == 0 {
		m = gray(1+r.Intn(8), 1+r.Intn(8))
	}
	for range m.Width * m.Height {
		m.Levels = append(m.Levels, r.Intn(asset.MaxLevel+1))
	}
	return m
}

var pieces = []string{"a", "url", "b1_", "$", "é", ".", "#", "-", "+", "=", "<", "{", "}", "(", ")", "[", "]", ";", ";", ":", ",", ">", " ", " ", "\t", "\n", "/", "*", "/**/", "/* } */", "//", "'x'", "\"y\"", "'\\''", "url('p')", "url(\"q\")", "\\", "`"}

var flaws = []string{"'", "\"", "/*", "\x01", "\x7f", "\r", "'\\\n'", "'\x02'", "/*\x03*/", "'a\n'"}

// randomCode is a style or a script of some pieces; often one that is right.
func randomCode(r *rand.Rand, many int) string {
	var s strings.Builder
	for range r.Intn(many) {
		s.WriteString(pieces[r.Intn(len(pieces))])
		if r.Intn(40) == 0 {
			s.WriteString(flaws[r.Intn(len(flaws))])
		}
	}
	return s.String()
}
