package asset_test

import (
	"fmt"
	"math"
	"math/rand"
	"slices"
	"strconv"
	"strings"
	"testing"

	"masthead/api"
	"masthead/asset"
)

// bundled is a bundle of a body, and of paths and ends in turn.
func bundled(body string, l ...any) asset.Bundled {
	b := asset.Bundled{Body: body}
	for i := 0; i < len(l); i += 2 {
		b.Parts, b.Ends = append(b.Parts, l[i].(string)), append(b.Ends, l[i+1].(int))
	}
	return b
}

// P7.4: parts with a line feed after each.
func TestBundle(t *testing.T) {
	for _, c := range []struct {
		parts []api.File
		want  asset.Bundled
	}{
		{nil, asset.Bundled{}},
		{files("a", ""), bundled("", "a", 0)},
		{files("a", "x"), bundled("x\n", "a", 2)},
		{files("a", "x\n"), bundled("x\n", "a", 2)},
		{files("a", "\n"), bundled("\n", "a", 1)},
		{files("a", "x\n\n"), bundled("x\n\n", "a", 3)},
		{files("a", "\nx"), bundled("\nx\n", "a", 3)},
		{files("b/c.script", "xy", "b", "", "a", "z\n", "d", ""), bundled("xy\nz\n", "b/c.script", 3, "b", 3, "a", 5, "d", 5)},
		{files("a", "\x00\xff"), bundled("\x00\xff\n", "a", 3)},
		{files("a", wide(api.MaxBody)), bundled(wide(api.MaxBody)+"\n", "a", api.MaxBody+1)},
	} {
		got, e := asset.Bundle(c.parts)
		expect(t, show(c.parts), got, e, c.want, api.OK)
	}
	full := numbered(asset.MaxParts)
	for i := range full {
		full[i].Body = strings.Repeat("y", api.MaxOut/asset.MaxParts-1)
	}
	got, e := asset.Bundle(full)
	if e != api.OK || len(got.Body) != api.MaxOut || len(got.Ends) != asset.MaxParts {
		t.Errorf("%s, error %d", short(show(got)), e)
	}
	if part, from, e := asset.Locate(got, api.MaxOut-1); part != asset.MaxParts-1 || from != api.MaxOut/asset.MaxParts-1 || e != api.OK {
		t.Errorf("the last byte: %d, %d, error %d", part, from, e)
	}
	if s, e := asset.MapString(got); strings.Count(s, " 4s8\n") != asset.MaxParts || e != api.OK {
		t.Errorf("%s, error %d", short(s), e)
	}
}

// P7.4: parts that are too many, too large, or not as they should be.
func TestBundleErrors(t *testing.T) {
	large := numbered(11)
	for i := range large {
		large[i].Body = wide(api.MaxBody)
	}
	over := append(slices.Clone(large[:9]), files("x", wide(api.MaxBody-10)+"\n", "y", "\n")...) // 9 times 20001, 19991 and 1: 200001
	for _, c := range []struct {
		name  string
		parts []api.File
		e     api.Errno
	}{
		{"as many as can be", numbered(asset.MaxParts), api.OK},
		{"too many", numbered(asset.MaxParts + 1), api.ErrLarge},
		{"too many, and no path", append(files("A", ""), numbered(asset.MaxParts)...), api.ErrLarge},
		{"a large body", files("a", wide(api.MaxBody+1)), api.ErrLarge},
		{"a large body after no path", files("A", "", "a", wide(api.MaxBody+1)), api.ErrLarge},
		{"no path", files("A", ""), api.ErrPath},
		{"an empty path", files("", "x"), api.ErrPath},
		{"a path from the root", files("a", "x", "/b", "x"), api.ErrPath},
		{"twice", files("a", "x", "b", "", "a", "y"), api.ErrTwice},
		{"twice before no path", files("a", "", "a", "", "A", ""), api.ErrTwice},
		{"no path before twice", files("a", "", "A", "", "a", ""), api.ErrPath},
		{"no path twice", files("A", "", "A", ""), api.ErrPath},
		{"too large in all", large, api.ErrLarge},
		{"too large in all, and no path", append(slices.Clone(large), files("A", "")...), api.ErrPath},
		{"too large in all, and twice", append(slices.Clone(large), large[0]), api.ErrTwice},
		{"just too large in all", over, api.ErrLarge},
		{"just not too large in all", over[:10], api.OK},
	} {
		got, e := asset.Bundle(c.parts)
		if e != c.e || e != api.OK && show(got) != show(asset.Bundled{}) {
			t.Errorf("%s: %s, error %d; want %d", c.name, short(show(got)), e, c.e)
		}
	}
}

// P7.4: in which part each byte is.
func TestLocate(t *testing.T) {
	b := bundled("xy\nz\n!", "a", 0, "b", 3, "c", 3, "d", 5, "e", 5, "f", 6, "g", 6)
	for at, want := range [][2]int{{1, 0}, {1, 1}, {1, 2}, {3, 0}, {3, 1}, {5, 0}} {
		part, from, e := asset.Locate(b, at)
		expect(t, fmt.Sprint(at), [2]int{part, from}, e, want, api.OK)
	}
	part, from, e := asset.Locate(bundled(wide(api.MaxOut), "", api.MaxOut), api.MaxOut-1)
	expect(t, "the last byte", [2]int{part, from}, e, [2]int{0, api.MaxOut - 1}, api.OK)
	part, from, e = asset.Locate(bundled("xx", "A", 1, "A", 2), 1)
	expect(t, "paths do not matter", [2]int{part, from}, e, [2]int{1, 0}, api.OK)
}

// P7.4: each byte of what Bundle returns is where it was, or the line feed behind it.
func TestLocateInBundle(t *testing.T) {
	r := rand.New(rand.NewSource(3))
	for range 500 {
		parts := numbered(1 + r.Intn(6))
		for i := range parts {
			parts[i].Body = []string{"", "\n", "a", "ab\n", "abc", "\nd"}[r.Intn(6)]
		}
		b, e := asset.Bundle(parts)
		if e != api.OK {
			t.Fatal(parts, e)
		}
		for at := range len(b.Body) {
			part, from, e := asset.Locate(b, at)
			if e != api.OK || (parts[part].Body + "\n")[from] != b.Body[at] {
				t.Fatal(parts, at, part, from, e)
			}
		}
	}
}

// notBundled are bundles whose parts do not divide their bodies.
func notBundled() map[string]asset.Bundled {
	many := asset.Bundled{Parts: make([]string, asset.MaxParts+1), Ends: make([]int, asset.MaxParts+1)}
	return map[string]asset.Bundled{
		"more parts":            {Body: "x", Parts: []string{"a", "b"}, Ends: []int{1}},
		"more ends":             {Body: "x", Parts: []string{"a"}, Ends: []int{1, 1}},
		"no ends":               {Parts: []string{"a"}},
		"too many":              many,
		"an end below 0":        bundled("x", "a", -1, "b", 1),
		"only an end below 0":   bundled("", "a", -1),
		"an end below another":  bundled("xx", "a", 2, "b", 1, "c", 2),
		"an end below the last": bundled("xx", "a", 2, "b", 1),
		"less than the body":    bundled("xx", "a", 1),
		"more than the body":    bundled("xx", "a", 3),
		"a body without parts":  bundled("x"),
		"very much":             bundled("x", "a", math.MaxInt),
		"very little":           bundled("x", "a", math.MinInt, "b", 1),
	}
}

// P7.4, P7.5: bundles that are none, and positions where nothing is.
func TestBundledErrors(t *testing.T) {
	for name, b := range notBundled() {
		for _, at := range []int{0, -1, 5, math.MaxInt} {
			if part, from, e := asset.Locate(b, at); part != 0 || from != 0 || e != api.ErrForm {
				t.Errorf("%s: Locate %d, %d, error %d", name, part, from, e)
			}
		}
		if s, e := asset.MapString(b); s != "" || e != api.ErrForm {
			t.Errorf("%s: MapString %q, error %d", name, s, e)
		}
	}
	for name, b := range map[string]asset.Bundled{
		"large":              bundled(wide(api.MaxOut+1), "a", api.MaxOut+1),
		"large, and no form": bundled(wide(api.MaxOut+1), "a", 1),
		"large, and no path": bundled(wide(api.MaxOut+1), "A", api.MaxOut+1),
	} {
		if _, _, e := asset.Locate(b, -1); e != api.ErrLarge {
			t.Errorf("%s: Locate error %d", name, e)
		}
		if _, e := asset.MapString(b); e != api.ErrLarge {
			t.Errorf("%s: MapString error %d", name, e)
		}
	}
	for _, at := range []int{-1, 2, 3, math.MaxInt, math.MinInt} {
		if part, from, e := asset.Locate(bundled("xx", "a", 1, "b", 2), at); part != 0 || from != 0 || e != api.ErrRange {
			t.Errorf("at %d: %d, %d, error %d", at, part, from, e)
		}
	}
	if _, _, e := asset.Locate(asset.Bundled{}, 0); e != api.ErrRange {
		t.Errorf("nothing: error %d", e)
	}
}

// P7.5: maps, as they are written and read.
func TestMaps(t *testing.T) {
	for _, c := range []struct {
		b    asset.Bundled
		want string
	}{
		{asset.Bundled{}, ""},
		{bundled("", "a", 0), "a 0\n"},
		{bundled("xxx", "a", 3, "b/c.d", 3), "a 3\nb/c.d 0\n"},
		{bundled(wide(31+32+33), "a", 31, "b", 63, "c", 96), "a v\nb 10\nc 11\n"},
		{bundled(wide(10+35), "a", 10, "b", 45), "a a\nb 13\n"},
		{bundled(wide(api.MaxOut), "a", 0, "b", api.MaxOut), "a 0\nb 63a0\n"},
		{bundled(wide(1024), widePath(200), 1024), widePath(200) + " 100\n"},
	} {
		s, e := asset.MapString(c.b)
		expect(t, show(c.b), s, e, c.want, api.OK)
		read, e := asset.ReadMap(c.want)
		c.b.Body = ""
		expect(t, c.want, read, e, c.b, api.OK)
	}
	for path, want := range map[string]api.Errno{"A": api.ErrPath, "": api.ErrPath, "a b": api.ErrPath, "x": api.ErrTwice} {
		s, e := asset.MapString(bundled("ab", "x", 1, path, 1, "x", 2, "/", 2))
		expect(t, path, s, e, "", want)
	}
}

// P7.5: what is no map.
func TestReadMapErrors(t *testing.T) {
	lines := func(n int, number string) string {
		s := ""
		for i := range n {
			s += "f" + strconv.Itoa(i) + " " + number + "\n"
		}
		return s
	}
	for _, c := range []struct {
		s string
		e api.Errno
	}{
		{"a 3", api.ErrSyntax},
		{"a 1\nb 1", api.ErrSyntax},
		{"\n", api.ErrSyntax},
		{"a 1\n\n", api.ErrSyntax},
		{"\na 1\n", api.ErrSyntax},
		{"a\n", api.ErrSyntax},
		{"a \n", api.ErrSyntax},
		{"a  1\n", api.ErrSyntax},
		{"a 1 \n", api.ErrSyntax},
		{"a\t1\n", api.ErrSyntax},
		{"a 01\n", api.ErrSyntax},
		{"a 00\n", api.ErrSyntax},
		{"a -1\n", api.ErrSyntax},
		{"a -0\n", api.ErrSyntax},
		{"a +1\n", api.ErrSyntax},
		{"a 1_0\n", api.ErrSyntax},
		{"a w\n", api.ErrSyntax},
		{"a 1w\n", api.ErrSyntax},
		{"a V\n", api.ErrSyntax},
		{"a 1\r\n", api.ErrSyntax},
		{"a 1\n\x00", api.ErrSyntax},
		{"A 1\n", api.ErrPath},
		{" 1\n", api.ErrPath},
		{"/a 1\n", api.ErrPath},
		{"a 1\nb 1\na 1\n", api.ErrTwice},
		{"a 1\na 1\nA 1\n", api.ErrTwice},
		{"A 1\na 1\na 1\n", api.ErrPath},
		{"A 1\na x\n", api.ErrSyntax},
		{"a 1\na 1\nb 0x\n", api.ErrSyntax},
		{lines(asset.MaxParts, "1"), api.OK},
		{lines(asset.MaxParts+1, "1"), api.ErrLarge},
		{lines(asset.MaxParts+1, "1") + "a", api.ErrSyntax},
		{lines(asset.MaxParts, "1") + "A 1\n", api.ErrLarge},
		{"a 63a0\n", api.OK},
		{"a 63a1\n", api.ErrLarge},
		{"a 63a0\nb 0\n", api.OK},
		{"a 63a0\nb 1\n", api.ErrLarge},
		{"a 1\nb 63a0\nc 0\n", api.ErrLarge},
		{"A 63a1\n", api.ErrLarge},
		{"a 63a1\na 0\n", api.ErrLarge},
		{"a 63a1\nb 00\n", api.ErrSyntax},
		{"a " + strings.Repeat("v", 500) + "\n", api.ErrLarge},
		{"a 1" + strings.Repeat("0", 13) + "\n", api.ErrLarge},
		{lines(30, strings.Repeat("v", 13)), api.ErrLarge},
		{"a 1" + strings.Repeat("0", api.MaxBody-4) + "\n", api.ErrLarge},
		{strings.Repeat("x", api.MaxBody), api.ErrSyntax},
		{strings.Repeat("x", api.MaxBody+1), api.ErrLarge},
	} {
		b, e := asset.ReadMap(c.s)
		if e != c.e || e != api.OK && show(b) != show(asset.Bundled{}) {
			t.Errorf("%s: %s, error %d; want %d", short(c.s), short(show(b)), e, c.e)
		}
	}
}

// P7.5, Z10: what MapString writes is read as it was, and nothing else is read.
func TestMapsAgain(t *testing.T) {
	r := rand.New(rand.NewSource(4))
	for range 2000 {
		b := asset.Bundled{}
		for i := range r.Intn(5) {
			b.Body += wide(r.Intn(1 << r.Intn(12)))
			b.Parts, b.Ends = append(b.Parts, strconv.Itoa(i)), append(b.Ends, len(b.Body))
		}
		s, e := asset.MapString(b)
		if e != api.OK {
			t.Fatal(b, e)
		}
		read, e := asset.ReadMap(s)
		b.Body = ""
		expect(t, s, read, e, b, api.OK)
		changed := []byte(s)
		if len(changed) > 0 {
			changed[r.Intn(len(changed))] = "01av w-\n\t"[r.Intn(9)]
		}
		if read, e := asset.ReadMap(string(changed)); e == api.OK && len(read.Ends) > 0 {
			read.Body = wide(read.Ends[len(read.Ends)-1])
			again, e := asset.MapString(read)
			expect(t, s, again, e, string(changed), api.OK)
		}
	}
}
