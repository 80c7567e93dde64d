package conf_test

import (
	"fmt"
	"strings"
	"testing"

	"masthead/api"
	"masthead/conf"
)

// P2.10: what is inserted.
func TestExpand(t *testing.T) {
	for s, want := range map[string]string{
		"": "", "a 1; b [nil yes {}]": "a 1; b [nil yes {}]", `a "x"`: `a "x"`, `a "$$"`: `a "$"`, `a "$$$$x$$"`: `a "$$x$"`, `a "$${b}"`: `a "${b}"`, `a "x}{y"`: `a "x}{y"`,
		`a "${b}"; b "x"`: `a "x"; b "x"`, `a "<${b}-${b}>"; b "x"`: `a "<x-x>"; b "x"`, `a "${b}"; b ""`: `a ""; b ""`, `a "$$${b}$$"; b "x"`: `a "$x$"; b "x"`,
		`a "${n}${y}${f}${i}${d}"; d 2000-02-29; f no; i -7; n nil; y yes`: `a "yesno-72000-02-29"; d 2000-02-29; f no; i -7; n nil; y yes`,
		`a "${b}"; b "${c}"; c "$$${d}"; d "x"`:                            `a "$x"; b "$x"; c "$x"; d "x"`,
		`a "x"; b "${a}"; c "${b}"`:                                        `a "x"; b "x"; c "x"`,
		`a ["x" {b "${a.0}y" ; c ["${a.1.b}"]}]; z "${a.1.c.0}"`:           `a ["x" {b "xy"; c ["xy"]}]; z "xy"`,
		`a "${b}${b}"; b "${c}${c}"; c "xy"`:                               `a "xyxyxyxy"; b "xyxy"; c "xy"`,
		`a "${b}"; b "$${a}"`:                                              `a "${a}"; b "${a}"`,
		`a "${b}"; b "\n\t\"\\"`:                                           `a "\n\t\"\\"; b "\n\t\"\\"`,
	} {
		got, e := conf.Expand(settings(t, s))
		expect(t, "Expand of "+s, got, e, settings(t, want), api.OK)
	}
	got, e := conf.Expand(str("a$$b"))
	expect(t, "Expand of a string", got, e, str("a$b"), api.OK)
	got, e = conf.Expand(list(str("${1}"), num(2)))
	expect(t, "Expand of a list", got, e, list(str("2"), num(2)), api.OK)
}

// P2.10: errors.
func TestExpandErrors(t *testing.T) {
	for s, want := range map[string]api.Errno{
		"$": api.ErrSyntax, "$a": api.ErrSyntax, "x$ ": api.ErrSyntax, "$}": api.ErrSyntax, "$$$": api.ErrSyntax, "${": api.ErrSyntax, "${c": api.ErrSyntax, "${n": api.ErrSyntax, "} ${n": api.ErrSyntax, "$ {n}": api.ErrSyntax, "${n}$": api.ErrSyntax,
		"${A}": api.ErrPath, "${ n}": api.ErrPath, "${n.}": api.ErrPath, "${*}": api.ErrPath, "${${n}}": api.ErrPath, "${01}": api.ErrPath, "${" + strings.Repeat("a.", 300) + "a}": api.ErrPath,
		"${x}": api.ErrNone, "${n.a}": api.ErrNone, "${l.1}": api.ErrNone, "${0}": api.ErrNone, "${l}": api.ErrKind, "${t}": api.ErrKind, "${}": api.ErrKind, "${a}": api.ErrLoop,
		"$a${A}": api.ErrSyntax, "${A}$a": api.ErrPath, "${x}${A}": api.ErrNone, "${l}${x}": api.ErrKind, "${a}${l}": api.ErrLoop, "${l}${a}": api.ErrKind, "${A$": api.ErrSyntax, "${x": api.ErrSyntax,
	} {
		got, e := conf.Expand(table("a", str(s), "l", list(num(1)), "n", num(1), "t", table()))
		expectError(t, "Expand of "+short(s), got, e, want)
	}
	for s, want := range map[string]api.Errno{
		`a "${b}"; b "${a}"`: api.ErrLoop, `a "${b}"; b "${c}"; c "${b}"`: api.ErrLoop, `a "x"; b ["${b.0}"]`: api.ErrLoop, `a "${b.0}"; b ["${c.d}"]; c {d "${a}"}`: api.ErrLoop,
		`a "$x"; b "${A}"`: api.ErrSyntax, `a "${A}"; b "$x"`: api.ErrPath, `a ["${A}" "$x"]`: api.ErrPath, `a ["$x" "${A}"]`: api.ErrSyntax, `a [["$x"] "${A}"]`: api.ErrSyntax, `b "$x"; a "${A}"`: api.ErrPath,
		// What is needed has its errors where it is needed.
		`a "${b}${A}"; b "${x}"`: api.ErrNone, `a "${A}${b}"; b "${x}"`: api.ErrPath, `a "${b}$"; b "${c}"; c "${l}"; l []`: api.ErrKind, `a "$x${b}"; b "${b}"`: api.ErrSyntax, `a "${b}$x"; b "${b}"`: api.ErrLoop,
	} {
		got, e := conf.Expand(settings(t, s))
		expectError(t, "Expand of "+s, got, e, want)
	}
	for v, want := range map[*api.Value]api.Errno{{Kind: api.String, Text: "${}"}: api.ErrLoop, {Kind: api.String, Text: "${a}"}: api.ErrNone, {Kind: api.Day, Int: -1}: api.ErrRange} {
		got, e := conf.Expand(*v)
		expectError(t, "Expand of "+show(*v), got, e, want)
	}
}

// P2.10: strings that become long.
func TestExpandLarge(t *testing.T) {
	long := strings.Repeat("x", conf.MaxString)
	for _, c := range []struct {
		name, a, b string
		want       api.Errno
		text       string
	}{
		{"as long as can be", "${b}", long, api.OK, long}, {"one byte more", "${b}y", long, api.ErrLarge, ""}, {"one byte before", "y${b}", long, api.ErrLarge, ""}, {"many", strings.Repeat("${b}", conf.MaxString/4), long, api.ErrLarge, ""},
		{"shorter than before", strings.Repeat("$$", conf.MaxString/2), "x", api.OK, strings.Repeat("$", conf.MaxString/2)}, {"nothing, many times", strings.Repeat("${b}", conf.MaxString/4), "", api.OK, ""},
	} {
		got, e := conf.Expand(table("a", str(c.a), "b", str(c.b)))
		expect(t, c.name, got, e, table("a", str(c.text), "b", str(c.b)), c.want)
	}
	got, e := conf.Expand(table("a", str("${b}"), "b", str("${c}y"), "c", str(long), "d", str("$x")))
	expectError(t, "too long where it is needed", got, e, api.ErrLarge)
	got, e = conf.Expand(table("a", str("$x"), "b", str("${c}y"), "c", str(long)))
	expectError(t, "an error before one that is too long", got, e, api.ErrSyntax)
}

// P2.10: Strings that need others, many times and along a long way.
func TestExpandMuch(t *testing.T) {
	v := table()
	for i := range conf.MaxValues - 1 {
		v.Keys, v.Items = append(v.Keys, fmt.Sprintf("k%04d", i)), append(v.Items, str(fmt.Sprintf("${k%04d}${k%04d}", i+1, i+1)))
	}
	v.Items[len(v.Items)-1] = str("")
	got, e := conf.Expand(v)
	if e != api.OK || got.Items[0].Text != "" || conf.Check(got) != api.OK {
		t.Errorf("error %d", e)
	}
	v.Items[len(v.Items)-1] = str("${k0000}")
	got, e = conf.Expand(v)
	expectError(t, "a long ring", got, e, api.ErrLoop)
}
