package lang_test

import (
	"fmt"
	"math"
	"math/rand"
	"strings"
	"testing"

	"masthead/api"
	"masthead/conf"
	"masthead/lang"
)

// P8.6: what is inserted.
func TestFormatInserts(t *testing.T) {
	leap, _ := conf.ReadDay("2024-02-29")
	long := args("a", text(wide(conf.MaxString)))
	for _, x := range []struct {
		s    string
		args []lang.Arg
		want string
	}{
		{"", nil, ""}, {"a \n\\{x\\}#", nil, "a \n{x}#"}, {"<{a}>", args("a", api.Value{}), "<>"}, {"<{a}>", args("a", boolean(true)), "<yes>"}, {"<{a}>", args("a", boolean(false)), "<no>"},
		{"<{a}>", args("a", number(0)), "<0>"}, {"<{a}>", args("a", number(-1234567)), "<-1.234.567>"}, {"<{a}>", args("a", number(math.MinInt)), "<-9.223.372.036.854.775.808>"},
		{"<{a}>", args("a", text("")), "<>"}, {"<{a}>", args("a", text("{a}#\\\n<é")), "<{a}#\\\n<é>"}, {"<{a}>", args("a", day(0)), "<1970-01-01>"}, {"<{a}>", args("a", day(leap)), "<2024-02-29>"}, {"<{a}>", args("a", day(api.MaxDay)), "<2199-12-31>"},
		{"{a}{b}{a}", args("b", text("2"), "a", text("1")), "121"}, {"{a}", args("a", text("{b}"), "b", text("x")), "{b}"}, {"x", args("a", text("")), "x"}, {"{a}", long, wide(conf.MaxString)},
	} {
		m, _, _ := lang.ReadMessage(x.s)
		got, e := lang.Format(m, german(), x.args)
		expect(t, x.s+short(show(x.args)), got, e, x.want, api.OK)
	}
}

// P8.6: which ways are taken.
func TestFormatWays(t *testing.T) {
	l := german()
	l.Rule = rule(within(1, 1), modulo(10, 2, 4)) // `n=1; n%10=2..4`
	for _, x := range []struct {
		s    string
		args []lang.Arg
		want string
	}{
		{"{a, choose, x {1} y {2} other {3}}", args("a", text("x")), "1"}, {"{a, choose, x {1} y {2} other {3}}", args("a", text("y")), "2"}, {"{a, choose, x {1} y {2} other {3}}", args("a", text("z")), "3"}, {"{a, choose, x {1} y {2} other {3}}", args("a", text("")), "3"}, {"{a, choose, x {1} other {3}}", args("a", text("other")), "3"}, {"{a, choose, x {1} other {3}}", args("a", text("X")), "3"}, {"{a, choose, x {1} other {3}}", args("a", text("x ")), "3"},
		{"{n, count, =1 {a} 0 {b} 1 {c} other {d}}", args("n", number(1)), "a"}, {"{n, count, 0 {b} =1 {a} 1 {c} other {d}}", args("n", number(1)), "a"}, {"{n, count, =1 {a} 0 {b} 1 {c} other {d}}", args("n", number(-1)), "b"}, {"{n, count, =1 {a} 0 {b} 1 {c} other {d}}", args("n", number(22)), "c"}, {"{n, count, =1 {a} 0 {b} 1 {c} other {d}}", args("n", number(5)), "d"}, {"{n, count, =1 {a} 0 {b} 1 {c} other {d}}", args("n", number(0)), "d"}, {"{n, count, 2 {e} other {d}}", args("n", number(0)), "e"}, {"{n, count, 3 {e} other {d}}", args("n", number(0)), "d"}, {"{n, count, 0 {e} other {d}}", args("n", number(0)), "d"},
		{"{n, count, =0 {e} other {d}}", args("n", number(0)), "e"}, {"{n, count, =-5 {e} other {d}}", args("n", number(-5)), "e"}, {"{n, count, =-5 {e} other {d}}", args("n", number(5)), "d"}, {"{n, count, =-9223372036854775808 {e} other {d}}", args("n", number(math.MinInt)), "e"},
		{"{n, count, other {#, \\#}}#", args("n", number(12345)), "12.345, ##"}, {"{n, count, other {#{a}{b, choose, x {#} other {}}}}", args("n", number(-1), "a", text("#"), "b", text("x")), "-1#-1"}, {"{n, count, other {#{m, count, other {#}}#}}", args("n", number(1), "m", number(2)), "121"}, {"{n, count, other {{m, count, =2 {} other {#}}#}}", args("n", number(1), "m", number(2)), "1"},
		{"{a, choose, x {{n, count, other {#}}#} other {}}", args("a", text("x"), "n", number(7)), "7#"}, {"{a, choose, x {{b}} other {}}", args("a", text("y")), ""}, {"{n, count, =0 {{b}{n, choose, x {} other {}}} other {}}", args("n", number(1)), ""},
	} {
		m, _, _ := lang.ReadMessage(x.s)
		got, e := lang.Format(m, l, x.args)
		expect(t, x.s+show(x.args), got, e, x.want, api.OK)
	}
}

// P8.6: what cannot be written, and which error comes first.
func TestFormatErrors(t *testing.T) {
	long := text(wide(conf.MaxString))
	var twenty []lang.Arg
	for i := range lang.MaxArgs {
		twenty = append(twenty, arg(fmt.Sprint("x", i), api.Value{}))
	}
	list := api.Value{Kind: api.List}
	for _, x := range []struct {
		s    string
		args []lang.Arg
		e    api.Errno
	}{
		{"", twenty, api.OK}, {"{x}", append(twenty, lang.Arg{}), api.ErrLarge},
		{"{x}", args("", text("")), api.ErrName}, {"{x}", args("A", text("")), api.ErrName}, {"{x}", args("a.b", text("")), api.ErrName}, {"{x}", args(wide(41), text("")), api.ErrName}, {"{x}", args("a", list, "A", list), api.ErrKind}, {"{x}", args("A", list), api.ErrName}, {"{x}", args("a", text(""), "a", list), api.ErrTwice}, {"{x}", args("a", text(""), "b", text(""), "a", text("")), api.ErrTwice}, {"", args(wide(40), text("")), api.OK},
		{"{x}", args("a", api.Value{Kind: api.Safe}), api.ErrKind}, {"{x}", args("a", api.Value{Kind: api.Fact, Text: "x"}), api.ErrKind}, {"{x}", args("a", day(-1)), api.ErrRange}, {"{x}", args("a", day(api.MaxDay+1)), api.ErrRange}, {"{x}", args("a", text("\x01")), api.ErrByte}, {"{x}", args("a", text(wide(conf.MaxString+1))), api.ErrLarge}, {"{x}", args("a", api.Value{Kind: api.Int, Text: "x"}), api.ErrForm}, {"{x}", args("a", api.Value{Kind: api.List, Items: []api.Value{day(-1)}}), api.ErrRange},
		{"{x}", args("a", list), api.ErrKind}, {"{x}", args("a", table()), api.ErrKind}, {"", args("a", texts("x")), api.ErrKind},
		{"{x}", nil, api.ErrNone}, {"{x, choose, a {} other {}}", nil, api.ErrNone}, {"{x, count, other {}}", args("y", number(1)), api.ErrNone}, {"{x, choose, a {} other {}}", args("x", number(1)), api.ErrKind}, {"{x, choose, a {} other {}}", args("x", api.Value{}), api.ErrKind}, {"{x, choose, yes {} other {}}", args("x", boolean(true)), api.ErrKind}, {"{x, count, other {}}", args("x", text("1")), api.ErrKind}, {"{x, count, other {}}", args("x", day(1)), api.ErrKind}, {"{x, count, other {}}", args("x", api.Value{}), api.ErrKind},
		{"{x}{y, count, other {}}", args("y", text("")), api.ErrNone}, {"{y, count, other {}}{x}", args("y", text("")), api.ErrKind}, {"{y, count, other {{x}}}{y, choose, a {} other {}}", args("y", number(1)), api.ErrNone}, {"{y, count, other {{y, choose, a {} other {}}}}{x}", args("y", number(1)), api.ErrKind},
		{"{a}", args("a", long), api.OK}, {"{a}b", args("a", long), api.ErrLarge}, {"b{a}", args("a", long), api.ErrLarge}, {"{a}{b}", args("a", long, "b", number(1)), api.ErrLarge}, {"{n, count, other {{a}#}}", args("a", long, "n", number(1)), api.ErrLarge}, {"{a}{b}", args("a", long, "b", text("")), api.OK},
		{"{a}b{x}", args("a", long), api.ErrLarge}, {"{a}{x}b", args("a", long), api.ErrNone}, {"{a}{n, count, other {b{x}}}", args("a", long, "n", number(1)), api.ErrLarge}, {"{n, count, other {{a}b}}{x}", args("a", long, "n", number(1)), api.ErrLarge}, {strings.Repeat("{a}", 100), args("a", long), api.ErrLarge},
	} {
		m, _, e := lang.ReadMessage(x.s)
		if e != api.OK {
			t.Fatal(x.s)
		}
		got, e := lang.Format(m, german(), x.args)
		if e != x.e || e != api.OK && got != "" {
			t.Errorf("%s %s: %s, error %d, want %d", x.s, short(show(x.args)), short(got), e, x.e)
		}
	}
	got, e := lang.Format(message(insert("A")), lang.Language{}, args("A", list))
	expect(t, "a message, and a language", got, e, "", api.ErrForm)
	got, e = lang.Format(message(insert("a")), lang.Language{}, make([]lang.Arg, 21))
	expect(t, "a language, and arguments", got, e, "", api.ErrName)
}

// said is what pieces say, if all arguments are there: a and b are Strings, c is an Int.
func said(l lang.Language, pieces []lang.Piece, a, b string, c, counted int) string {
	s := ""
	for _, p := range pieces {
		n, _ := lang.Number(l, c)
		value := map[string]string{"a": a, "b": b, "c": n}[p.Text]
		switch p.Kind {
		case lang.Plain:
			s += p.Text
		case lang.Insert:
			s += value
		case lang.Hash:
			n, _ := lang.Number(l, counted)
			s += n
		case lang.Choose:
			way := p.Ways[len(p.Ways)-1]
			for _, w := range p.Ways[:len(p.Ways)-1] {
				if w.Word == value {
					way = w
				}
			}
			s += said(l, way.Pieces, a, b, c, counted)
		case lang.Count:
			form, _ := lang.Form(l.Rule, c)
			way, found := p.Ways[len(p.Ways)-1], false
			for _, w := range p.Ways {
				if w.Form == -1 && w.Exact == c {
					way, found = w, true
				}
			}
			for _, w := range p.Ways {
				if !found && w.Form == form {
					way = w
				}
			}
			s += said(l, way.Pieces, a, b, c, c)
		}
	}
	return s
}

// named puts arguments of the right Kinds into random pieces.
func withNames(r *rand.Rand, l []lang.Piece) {
	for i := range l {
		switch l[i].Kind {
		case lang.Choose:
			l[i].Text = string("ab"[r.Intn(2)])
		case lang.Count:
			l[i].Text = "c"
		}
		for _, w := range l[i].Ways {
			withNames(r, w.Pieces)
		}
	}
}

// P8.6: what random messages say.
func TestFormatOfRandomMessages(t *testing.T) {
	r := rand.New(rand.NewSource(9))
	for range 5000 {
		l := german()
		l.Rule = anyRule(r)
		m := message(anyPieces(r, 4, false)...)
		withNames(r, m.Pieces)
		a, b, c := words[r.Intn(len(words))], words[r.Intn(len(words))], r.Intn(6)-2
		got, e := lang.Format(m, l, args("a", text(a), "b", text(b), "c", number(c)))
		if s, wrong := lang.MessageString(m); wrong == api.OK {
			expect(t, s, got, e, said(l, m.Pieces, a, b, c, 0), api.OK)
		}
	}
}
