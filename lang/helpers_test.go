package lang_test

import (
	"fmt"
	"math/rand"
	"slices"
	"strings"
	"testing"

	"masthead/api"
	"masthead/lang"
)

// wide is a string of so many bytes.
func wide(n int) string { return strings.Repeat("x", n) }

// show writes anything as a line; empty and nil lists are the same.
func show(x any) string { return fmt.Sprintf("%+v", x) }

// short is the beginning of a string, for messages.
func short(s string) string {
	if len(s) > 400 {
		return fmt.Sprintf("%q.. (%d bytes)", s[:400], len(s))
	}
	return fmt.Sprintf("%q", s)
}

// expect checks what a call returns with its error.
func expect(t *testing.T, name string, got any, e api.Errno, want any, wantError api.Errno) {
	t.Helper()
	if e != wantError || show(got) != show(want) {
		t.Errorf("%s\n got %s, error %d\nwant %s, error %d", short(name), short(show(got)), e, short(show(want)), wantError)
	}
}

func boolean(b bool) api.Value { return api.Value{Kind: api.Bool, Bool: b} }
func number(n int) api.Value   { return api.Value{Kind: api.Int, Int: n} }
func text(s string) api.Value  { return api.Value{Kind: api.String, Text: s} }
func day(n int) api.Value      { return api.Value{Kind: api.Day, Int: n} }

func texts(l ...string) api.Value {
	v := api.Value{Kind: api.List}
	for _, s := range l {
		v.Items = append(v.Items, text(s))
	}
	return v
}

// table is a Table of keys and values, in turn.
func table(l ...any) api.Value {
	v := api.Value{Kind: api.Table}
	for i := 0; i < len(l); i += 2 {
		v.Keys, v.Items = append(v.Keys, l[i].(string)), append(v.Items, l[i+1].(api.Value))
	}
	return v
}

// arg and args are arguments of names and values, in turn.
func arg(name string, v api.Value) lang.Arg { return lang.Arg{Name: name, Value: v} }

func args(l ...any) []lang.Arg {
	var out []lang.Arg
	for i := 0; i < len(l); i += 2 {
		out = append(out, arg(l[i].(string), l[i+1].(api.Value)))
	}
	return out
}

// entries are strings of keys and texts, in turn.
func entries(l ...string) []lang.Entry {
	var out []lang.Entry
	for i := 0; i < len(l); i += 2 {
		out = append(out, lang.Entry{Key: l[i], Text: l[i+1]})
	}
	return out
}

// The pieces of messages, and messages of them.
func plain(s string) lang.Piece     { return lang.Piece{Kind: lang.Plain, Text: s} }
func insert(name string) lang.Piece { return lang.Piece{Kind: lang.Insert, Text: name} }
func hash() lang.Piece              { return lang.Piece{Kind: lang.Hash} }

func choose(name string, ways ...lang.Way) lang.Piece {
	return lang.Piece{Kind: lang.Choose, Text: name, Ways: ways}
}

func count(name string, ways ...lang.Way) lang.Piece {
	return lang.Piece{Kind: lang.Count, Text: name, Ways: ways}
}

func word(s string, l ...lang.Piece) lang.Way { return lang.Way{Word: s, Pieces: l} }
func exact(n int, l ...lang.Piece) lang.Way   { return lang.Way{Exact: n, Form: -1, Pieces: l} }
func form(n int, l ...lang.Piece) lang.Way    { return lang.Way{Form: n, Pieces: l} }
func message(l ...lang.Piece) lang.Message    { return lang.Message{Pieces: l} }
func otherCount(l ...lang.Piece) lang.Way     { return form(lang.MaxForms+1, l...) }
func deepMessage(n int) lang.Message          { return message(deepPiece(n, insert("a"))) }
func chosen(l ...lang.Piece) lang.Piece       { return choose("c", word("w", l...), word("")) }
func counted(l ...lang.Piece) lang.Piece      { return count("n", otherCount(l...)) }
func manyPlain(n int, s string) []lang.Piece {
	return slices.Repeat([]lang.Piece{plain(s), hash()}, n)[:n]
}
func manyInserts(n int) []lang.Piece            { return slices.Repeat([]lang.Piece{insert("a")}, n) }
func tests(l ...lang.Test) []lang.Test          { return l }
func rule(l ...lang.Test) lang.Rule             { return lang.Rule{Forms: l} }
func within(low, high int) lang.Test            { return lang.Test{Op: lang.Within, Low: low, High: high} }
func group(op int, kids ...lang.Test) lang.Test { return lang.Test{Op: op, Kids: kids} }

func modulo(modulus, low, high int) lang.Test {
	return lang.Test{Op: lang.Within, Modulus: modulus, Low: low, High: high}
}

// deepPiece is a piece in so many messages, one in the other.
func deepPiece(n int, p lang.Piece) lang.Piece {
	for range n - 1 {
		p = counted(p)
	}
	return p
}

// deepTest is a test of so many levels.
func deepTest(n int) lang.Test {
	t := within(1, 1)
	for range n - 1 {
		t = group(lang.None, t)
	}
	return t
}

// wideTest is a test of so many tests in all.
func wideTest(n int) lang.Test {
	return group(lang.Some, slices.Repeat(tests(within(1, 1)), n-1)...)
}

// english, german and austrian are languages, each one the Parent of the next.
func english() lang.Language {
	return lang.Language{
		Name: "en", Group: ",", Point: ".",
		Rule:    rule(within(1, 1)),
		Months:  strings.Split("January February March April May June July August September October November December", " "),
		Days:    strings.Split("Monday Tuesday Wednesday Thursday Friday Saturday Sunday", " "),
		Strings: entries("files", "{n, count, =0 {no files} 0 {# file} other {# files}}", "hello", "Hello, {who}!", "top", "Top"),
	}
}

func german() lang.Language {
	return lang.Language{
		Name: "de", Parent: "en", Group: ".", Point: ",",
		Rule:    rule(within(1, 1)),
		Months:  strings.Split("Januar Februar März April Mai Juni Juli August September Oktober November Dezember", " "),
		Days:    strings.Split("Montag Dienstag Mittwoch Donnerstag Freitag Samstag Sonntag", " "),
		Letters: []string{"a", "ä", "b", "c", "ch", "d"},
		Strings: entries("a-b", "A B", "a.b.c", "{g, choose, he {er} other {sie}}", "a.c", "", "hello", "Hallo, {who}!"),
	}
}

func austrian() lang.Language {
	l := lang.Language{Name: "at", Parent: "de", Group: " ", Point: ",", Strings: entries("hello", "Servus, {who}: {n}!")}
	l.Months = german().Months
	l.Months[0] = "Jänner"
	return l
}

// anyRule is a rule that is right.
func anyRule(r *rand.Rand) lang.Rule {
	var l []lang.Test
	for range r.Intn(lang.MaxForms + 1) {
		l = append(l, anyTest(r, 3, 0))
	}
	return rule(l...)
}

// anyTest is a test of at most so many levels, of another Op than one.
func anyTest(r *rand.Rand, levels, not int) lang.Test {
	op := lang.Within
	if levels > 1 && r.Intn(2) == 0 {
		op = lang.All + r.Intn(3)
	}
	if op == lang.Within || op == not {
		t := within(r.Intn(5), 0)
		t.High = t.Low + r.Intn(2)*r.Intn(20)
		if r.Intn(2) == 0 {
			t.Modulus = 2 + r.Intn(12)
		}
		return t
	}
	t := group(op)
	for range 2 + r.Intn(2) - op/lang.None {
		t.Kids = append(t.Kids, anyTest(r, levels-1, op%lang.None))
	}
	return t
}

var words = []string{"w", "x1", "A-b", "_", "0", "choose", "count"}

// anyPieces are pieces that are right.
func anyPieces(r *rand.Rand, levels int, inCount bool) []lang.Piece {
	var l []lang.Piece
	for range r.Intn(4) {
		var p lang.Piece
		switch name := string("abc"[r.Intn(3)]); r.Intn(6) {
		case 0, 1:
			p = plain([]string{"x", "{", "}", "#", `\`, "é \t\n", `a{b}\#`}[r.Intn(7)])
			if len(l) > 0 && l[len(l)-1].Kind == lang.Plain {
				continue
			}
		case 2:
			p = insert(name)
		case 3:
			if !inCount {
				continue
			}
			p = hash()
		default:
			if levels == 1 {
				continue
			}
			p = anyWays(r, name, levels-1, inCount)
		}
		l = append(l, p)
	}
	return l
}

func anyWays(r *rand.Rand, name string, levels int, inCount bool) lang.Piece {
	if r.Intn(2) == 0 {
		p := choose(name)
		for _, i := range r.Perm(len(words))[:1+r.Intn(2)] {
			p.Ways = append(p.Ways, word(words[i], anyPieces(r, levels, inCount)...))
		}
		p.Ways = append(p.Ways, word("", anyPieces(r, levels, inCount)...))
		return p
	}
	p := count(name)
	for _, i := range r.Perm(lang.MaxForms + 1)[:r.Intn(3)] {
		p.Ways = append(p.Ways, form(i, anyPieces(r, levels, true)...))
	}
	for _, i := range r.Perm(5)[:r.Intn(3)] {
		p.Ways = append(p.Ways, exact(i-2, anyPieces(r, levels, true)...))
	}
	r.Shuffle(len(p.Ways), func(i, j int) { p.Ways[i], p.Ways[j] = p.Ways[j], p.Ways[i] })
	p.Ways = append(p.Ways, otherCount(anyPieces(r, levels, true)...))
	return p
}
