package asset_test

import (
	"fmt"
	"math/rand"
	"strings"
	"testing"

	"masthead/api"
	"masthead/asset"
)

// P7.1: digests that have been found with another program.
func TestDigest(t *testing.T) {
	var all []byte
	for c := range 256 {
		all = append(all, byte(c))
	}
	for _, c := range []struct{ body, want string }{
		{"", "e1d51defa23446f36fd8ff202dea202a"},
		{"a", "293434bed0cb3effde20ae100bb4170a"},
		{"b", "e4c216b31df352bfd6d318c648bc9795"},
		{"abc", "f011dcdc180d3a75d81010a564146c75"},
		{"body", "ac89072a859f2bc747b4023f6ca4045a"},
		{"\x00", "668e5dfd91f941fbee822926c914173f"},
		{"\x00\x00", "aa11578fb8979a4bc120cc9e8e416928"},
		{string(all), "58767c3865207536e326d688da9a66f3"},
		{strings.Repeat("masthead\n", 50), "2a72b19cb9a60876da161e7f3bb85e60"},
		{wide(70_000), "e175f7cc62f9f59d767231fec154172d"},
	} {
		if got := asset.Digest(c.body); got != c.want {
			t.Errorf("%s: %s, want %s", short(c.body), got, c.want)
		}
	}
}

// digest is the digest as the chapter says it, with numbers that are reduced one by one.
func digest(body string) string {
	const all = 1 << 32
	p, q, r, s := uint64(1732584193), uint64(4023233417), uint64(2562383102), uint64(271733878)
	n := len(body)
	end := string([]byte{byte(n % 256), byte(n / 256 % 256), byte(n / 65536 % 256), byte(n / 65536 / 256 % 256)}) + strings.Repeat("\x00", 16)
	for _, b := range []byte(body + end) {
		p = (p + uint64(b)) % all * 16777619 % all
		q = (q + p) % all * 2654435761 % all
		r = ((r ^ q) + 374761393) % all
		s = (s + 9*r + uint64(b)) % all
		p, q, r, s = q, r, s, p
	}
	return fmt.Sprintf("%08x%08x%08x%08x", p, q, r, s)
}

// P7.1: digests of strings of any length, all of them others.
func TestDigests(t *testing.T) {
	r := rand.New(rand.NewSource(1))
	seen := map[string]string{}
	for i := range 3000 {
		body := make([]byte, r.Intn(40))
		r.Read(body)
		if i%100 == 0 {
			body = make([]byte, i*200)
		}
		got := asset.Digest(string(body))
		if want := digest(string(body)); got != want {
			t.Fatalf("%s: %s, want %s", short(string(body)), got, want)
		}
		if other, ok := seen[got]; ok && other != string(body) {
			t.Errorf("%s and %s have one digest", short(other), short(string(body)))
		}
		seen[got] = string(body)
	}
}

// P7.2: where the digits are put.
func TestFingerprint(t *testing.T) {
	for path, want := range map[string]string{
		"a":                    "a.#",
		"a.b":                  "a.#.b",
		"a.style":              "a.#.style",
		"a.b.c":                "a.b.#.c",
		"x/a":                  "x/a.#",
		"x.y/a":                "x.y/a.#",
		"x.y/.a":               "x.y/.a.#",
		".a":                   ".a.#",
		".a.b":                 ".a.#.b",
		"..a":                  "..#.a",
		"...":                  "...#.",
		"a.":                   "a.#.",
		"x/y/a..":              "x/y/a..#.",
		"a.0123456789ab":       "a.#.0123456789ab",
		"a.0123456789ab.c":     "a.0123456789ab.#.c",
		wide(27):               wide(27) + ".#",
		wide(20) + ".xxxxxx":   wide(20) + ".#.xxxxxx",
		widePath(187):          widePath(187) + ".#",
		wide(40) + "/a":        wide(40) + "/a.#",
		"a-b_c.d-e_f":          "a-b_c.#.d-e_f",
		"9":                    "9.#",
		strings.Repeat(".", 9): strings.Repeat(".", 9) + "#.",
	} {
		for _, body := range []string{"", "body", "\x00\xff", wide(api.MaxOut)} {
			got, e := asset.Fingerprint(path, body)
			expect(t, path, got, e, printOf(want, body), api.OK)
		}
	}
}

// P7.2: paths that are none, results that are none, and bodies that are too large.
func TestFingerprintErrors(t *testing.T) {
	for _, c := range []struct {
		path, body string
		e          api.Errno
	}{
		{"", "", api.ErrPath},
		{".", "", api.ErrPath},
		{"..", "", api.ErrPath},
		{"/a", "", api.ErrPath},
		{"a/", "", api.ErrPath},
		{"a//b", "", api.ErrPath},
		{"a/../b", "", api.ErrPath},
		{"A", "", api.ErrPath},
		{"a b", "", api.ErrPath},
		{"é", "", api.ErrPath},
		{wide(41), "", api.ErrPath},
		{widePath(201), "", api.ErrPath},
		{wide(28), "", api.ErrPath},
		{"x/" + wide(27) + ".", "", api.ErrPath},
		{widePath(188), "", api.ErrPath},
		{"a", wide(api.MaxOut + 1), api.ErrLarge},
		{"A", wide(api.MaxOut + 1), api.ErrLarge},
	} {
		got, e := asset.Fingerprint(c.path, c.body)
		expect(t, c.path, got, e, "", c.e)
	}
}

// P7.2: what Plain takes out.
func TestPlain(t *testing.T) {
	for _, c := range []struct {
		path, plain, digits string
	}{
		{"a.0123456789ab", "a", "0123456789ab"},
		{"a.0123456789ab.c", "a.c", "0123456789ab"},
		{"a.0123456789ab.", "a.", "0123456789ab"},
		{"a.0123456789ab.0123456789cd", "a.0123456789cd", "0123456789ab"},
		{"a.b.0123456789ab", "a.b", "0123456789ab"},
		{"a.b.0123456789ab.c", "a.b.c", "0123456789ab"},
		{"x/a.ffffffffffff", "x/a", "ffffffffffff"},
		{"x.y/z/a.ffffffffffff.b", "x.y/z/a.b", "ffffffffffff"},
		{".a.0123456789ab", ".a", "0123456789ab"},
		{"..0123456789ab", ".", "0123456789ab"},
		{"..0123456789ab.a", "..a", "0123456789ab"},
		{".0123456789ab.0123456789cd", ".0123456789ab", "0123456789cd"},
		{"x/.0123456789ab.0123456789cd", "x/.0123456789ab", "0123456789cd"},
		{"a.0123456789ab.0123456789ab.0123456789cd", "a.0123456789ab.0123456789cd", "0123456789ab"},
		{"a..0123456789ab", "a.", "0123456789ab"},
		{"a.0123456789ab..0123456789cd", "a.0123456789ab.", "0123456789cd"},
	} {
		plain, digits, ok := asset.Plain(c.path)
		if !ok || plain != c.plain || digits != c.digits {
			t.Errorf("%s: %s, %s, %v; want %s, %s", c.path, plain, digits, ok, c.plain, c.digits)
		}
	}
	for _, path := range []string{
		"", ".", "/", "a", "a.style", "0123456789ab", ".0123456789ab", ".0123456789ab.c", "0123456789ab.c", "x/.0123456789ab", "x/.0123456789ab.c",
		"a.0123456789aB", "a.0123456789aB.c", "a.0123456789ag.c", "a.g123456789ab.c", "a.g123456789ab", "a.012345g789ab", "a.0123456789a", "a.0123456789abc", "a.0123456789a.c", "a.0123456789abc.c",
		"a-0123456789ab.c", "a0123456789ab", "a.0123456789ab.c.d", "a.0123456789ab/c", "a.0123456789ab.c/d", "a.0123456789ab/", "a.0123456789ab..c", "a.01234 6789ab",
	} {
		if plain, digits, ok := asset.Plain(path); ok || plain != "" || digits != "" {
			t.Errorf("%s: %s, %s, %v; want false", path, plain, digits, ok)
		}
	}
}

// P7.2: Plain takes out what Fingerprint has put in.
func TestPlainOfFingerprint(t *testing.T) {
	r := rand.New(rand.NewSource(2))
	part := []string{"a", "b", ".", ".", "-", "0123456789ab", "f", "/"}
	many := 0
	for range 20_000 {
		path, body := "", wide(r.Intn(9))
		for range 1 + r.Intn(6) {
			path += part[r.Intn(len(part))]
		}
		name, e := asset.Fingerprint(path, body)
		if e != api.OK {
			continue
		}
		many++
		if plain, digits, ok := asset.Plain(name); !ok || plain != path || digits != digest(body)[:12] {
			t.Fatalf("%s: %s, %s, %v; want %s", name, plain, digits, ok, path)
		}
	}
	if many < 2000 {
		t.Errorf("only %d names", many)
	}
}

// P7.3: kinds by what follows the last point.
func TestKindOf(t *testing.T) {
	for path, want := range map[string]int{
		"a.style": asset.Style, "a.script": asset.Script, "a.image": asset.Images,
		"x/y.z/a.b.style": asset.Style, ".style": asset.Style, "x/.script": asset.Script, "a..image": asset.Images, "a.script.style": asset.Style,
		"": asset.Else, "a": asset.Else, "style": asset.Else, "script": asset.Else, "x/image": asset.Else,
		"a.": asset.Else, "a.styles": asset.Else, "a.Style": asset.Else, "a.style.": asset.Else, "a.style.x": asset.Else, "a.xstyle": asset.Else, "a.style/b": asset.Else, "a.x/style": asset.Else, "a.image ": asset.Else,
	} {
		if got := asset.KindOf(path); got != want {
			t.Errorf("%q: %d, want %d", path, got, want)
		}
	}
}
