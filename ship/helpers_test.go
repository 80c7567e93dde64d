package ship_test

import (
	"fmt"
	"math/rand"
	"strings"
	"testing"

	"masthead/api"
	"masthead/ship"
)

// wide is a string of so many bytes.
func wide(n int) string { return strings.Repeat("x", n) }

// show writes anything as a line; empty and nil lists are the same.
func show(x any) string {
	if x == nil {
		return "[]"
	}
	return fmt.Sprintf("%+v", x)
}

// short is the beginning of a string, for messages.
func short(s string) string {
	if len(s) > 1500 {
		return fmt.Sprintf("%q.. (%d bytes)", s[:1500], len(s))
	}
	return fmt.Sprintf("%q", s)
}

// expect checks what a call returns with its error.
func expect(t *testing.T, name string, got any, e api.Errno, want any, wantError api.Errno) {
	t.Helper()
	if e != wantError || show(got) != show(want) {
		t.Errorf("%s\n got %s, error %d\nwant %s, error %d", short(name), short(show(got)), e, short(show(want)), wantError)
	}
}

// same checks what a call returns.
func same(t *testing.T, name string, got, want any) {
	t.Helper()
	expect(t, name, got, api.OK, want, api.OK)
}

// words are the words of a string.
func words(s string) []string { return strings.Fields(s) }

// outs are outputs of paths and bodies, in turn.
func outs(l ...string) []api.Out {
	var out []api.Out
	for i := 0; i < len(l); i += 2 {
		out = append(out, api.Out{Path: l[i], Body: l[i+1]})
	}
	return out
}

// redirects are those of addresses, from and to in turn.
func redirects(l ...string) []ship.Redirect {
	var out []ship.Redirect
	for i := 0; i < len(l); i += 2 {
		out = append(out, ship.Redirect{From: l[i], To: l[i+1]})
	}
	return out
}

// page is a page with nothing wrong but what is in it.
func page(body string) string { return "<title>T</title>" + body }

// manyOuts are so many outputs.
func manyOuts(n int, body string) []api.Out {
	var l []api.Out
	for i := range n {
		l = append(l, api.Out{Path: fmt.Sprintf("o%06d.html", i), Body: body})
	}
	return l
}

// tooMany is HTML with one token too many.
var tooMany = strings.Repeat("<a>", ship.MaxTokens+1)

// pick is any item of a list.
func pick[T any](r *rand.Rand, l []T) T { return l[r.Intn(len(l))] }

// mix is some pieces, one after the other.
func mix(r *rand.Rand, pieces []string, most int) string {
	var b strings.Builder
	for range r.Intn(most + 1) {
		b.WriteString(pick(r, pieces))
	}
	return b.String()
}

// badOuts are lists of outputs that are not valid, by their errors.
func badOuts() map[api.Errno][]api.Out {
	return map[api.Errno][]api.Out{
		api.ErrPath:  outs("/a", ""),
		api.ErrOrder: outs("b", "", "a", ""),
		api.ErrTwice: outs("a", "", "a/b", ""),
		api.ErrLarge: manyOuts(4*api.MaxFiles+1, ""),
	}
}

// refuses checks that a call with outputs returns their error first.
func refuses(t *testing.T, name string, call func(l []api.Out) (any, api.Errno), zero any) {
	t.Helper()
	for want, l := range badOuts() {
		got, e := call(l)
		expect(t, name+" of outputs that are not valid", got, e, zero, want)
	}
}
