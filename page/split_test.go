package page_test

import (
	"math/rand"
	"slices"
	"strings"
	"testing"

	"masthead/api"
	"masthead/page"
)

// P6.2: a body as parts.
func TestSplit(t *testing.T) {
	note := around("note", text("b\n"))
	note.Args = args("x", "k=y")
	for _, c := range []struct {
		name, body string
		want       []page.Part
	}{
		{"nothing", "", nil},
		{"an empty line", "\n", nil},
		{"empty lines", "\n  \n\t\n", nil},
		{"a line", "a", parts(text("a\n"))},
		{"a line with its end", "a\n", parts(text("a\n"))},
		{"lines", "a\n\n b\n", parts(text("a\n\n b\n"))},
		{"empty lines around", "\n \na\n\n\n", parts(text("\n \na\n\n\n"))},
		{"the example", lines("a", `{< note "x" k="y" >}`, "b", "{< /note >}", "{< hr />}"), parts(text("a\n"), note, whole("hr"))},
		{"no end of the last line", "{< a >}\nb\n{< /a >}", parts(around("a", text("b\n")))},
		{"nothing inside", "{< a >}\n{< /a >}", parts(around("a"))},
		{"an empty line inside", "{< a >}\n \n{< /a >}", parts(around("a"))},
		{"empty lines between", "{< a />}\n\n\n{< b />}\n\t\n", parts(whole("a"), whole("b"))},
		{"lines with empty ones between", "{< a />}\n\nb\n\n{< c />}", parts(whole("a"), text("\nb\n\n"), whole("c"))},
		{"one in another", "{< a >}\n{< a >}\nx\n{< /a >}\ny\n{< b />}\n{< /a >}\nz", parts(around("a", around("a", text("x\n")), text("y\n"), whole("b")), text("z\n"))},
		{"not at the beginning", " {< a />}\nb {< /a >}\n> {< a >}", parts(text(" {< a />}\nb {< /a >}\n> {< a >}\n"))},
		{"no space", "{<a />}\n{<", parts(text("{<a />}\n{<\n"))},
		{"in a fence", "```\n{< a >}\n```\n{< b />}", parts(text("```\n{< a >}\n```\n"), whole("b"))},
		{"in a fence with an info", "```x y\n{< a >}\n{< /b\n```\t \n{< b />}", parts(text("```x y\n{< a >}\n{< /b\n```\t \n"), whole("b"))},
		{"in a fence without an end", "a\n```\n{< a >}\n", parts(text("a\n```\n{< a >}\n"))},
		{"a fence in a shortcode", "{< a >}\n```\n{< /a >}\n```\n{< /a >}", parts(around("a", text("```\n{< /a >}\n```\n")))},
		{"not the end of a fence", "```\n ```\n```x\n````\n{< a >}\n```\n{< b />}", parts(text("```\n ```\n```x\n````\n{< a >}\n```\n"), whole("b"))},
		{"not the beginning of a fence", " ```\n{< a />}\n``\n{< b />}\n> ```\n{< c />}", parts(text(" ```\n"), whole("a"), text("``\n"), whole("b"), text("> ```\n"), whole("c"))},
		{"a fence after another one", "```\n```\n{< a />}\n```\n{< b >}\n```", parts(text("```\n```\n"), whole("a"), text("```\n{< b >}\n```\n"))},
		{"a fence of four", "````\n{< a >}\n````\n{< b >}\n```\n{< c />}", parts(text("````\n{< a >}\n````\n{< b >}\n```\n"), whole("c"))},
		{"a fence that begins with a shortcode's line", "```{< a />}\n{< b >}\n```", parts(text("```{< a />}\n{< b >}\n```\n"))},
		{"bytes", "\x7f\x80\xff\t<", parts(text("\x7f\x80\xff\t<\n"))},
	} {
		l, line, e := page.Split(c.body)
		expect(t, c.name, l, e, c.want, api.OK)
		if line != 0 {
			t.Errorf("%s: line %d", c.name, line)
		}
	}
}

// P6.2: the errors, in their order, with the numbers of lines.
func TestSplitErrors(t *testing.T) {
	twelve, closed12 := open(12)
	full := strings.Repeat("{< x />}\n", 200)
	for _, c := range []struct {
		name, body string
		line       int
		e          api.Errno
	}{
		{"as long as can be", wide(api.MaxBody), 0, api.OK},
		{"too long", wide(api.MaxBody + 1), 0, api.ErrLarge},
		{"too long before a byte", "a\n\x00" + wide(api.MaxBody), 0, api.ErrLarge},
		{"a byte", "a\n\x00", 0, api.ErrByte},
		{"a return", "a\r\n", 0, api.ErrByte},
		{"the last byte that cannot be", "a\x1f", 0, api.ErrByte},
		{"a byte before a line", "{< A />}\n\x01", 0, api.ErrByte},
		{"a byte in a fence", "```\n\x0b\n```", 0, api.ErrByte},
		{"a form", "a\n\n{< A />}", 2, api.ErrSyntax},
		{"no name", "{< >}", 0, api.ErrSyntax},
		{"a beginning alone", "{< ", 0, api.ErrSyntax},
		{"a blank after it", "{< a />} ", 0, api.ErrSyntax},
		{"a tab in a value", "{< a \"\t\" />}", 0, api.ErrSyntax},
		{"many arguments", "\n{< a" + strings.Repeat(" x", 13) + " />}", 1, api.ErrLarge},
		{"two of one name", "{< a k=1 k=1 />}", 0, api.ErrTwice},
		{"an order", "{< a k=1 1 />}", 0, api.ErrOrder},
		{"a closing line that is none", "{< a >}\n{< /a>}", 1, api.ErrSyntax},
		{"a closing line with an argument", "{< a >}\n{< /a b >}", 1, api.ErrSyntax},
		{"a closing line of a whole one", "{< a >}\n{< /a />}", 1, api.ErrSyntax},
		{"a closing line with a blank", "{< a >}\n{< /a >} ", 1, api.ErrSyntax},
		{"a closing line with a space", "{< a >}\n{< / a >}", 1, api.ErrSyntax},
		{"a closing line without a name", "{< a >}\n{< / >}", 1, api.ErrSyntax},
		{"a closing line with a bad name", "{< a >}\n{< /A >}", 1, api.ErrSyntax},
		{"a closing line with a long name", "{< a >}\n{< /" + wide(21) + " >}", 1, api.ErrSyntax},
		{"a closing line with a name that fits", "{< a >}\n{< /" + wide(20) + " >}", 1, api.ErrNone},
		{"a closing line alone", "{< /", 0, api.ErrSyntax},
		{"a whole one without a name", "{< />}", 0, api.ErrSyntax},
		{"none is open", "a\n{< /a >}", 1, api.ErrNone},
		{"none is open again", "{< a >}\n{< /a >}\n{< /a >}", 2, api.ErrNone},
		{"none is open after a whole one", "{< a />}\n{< /a >}", 1, api.ErrNone},
		{"another one is open", "{< a >}\n\n{< /b >}", 2, api.ErrNone},
		{"one further out is open", "{< a >}\n{< b >}\n{< /a >}", 2, api.ErrNone},
		{"an earlier line first", "{< /a >}\n{< A >}", 0, api.ErrNone},
		{"just not too deep", twelve + "{< b />}\nx\n" + closed12, 0, api.OK},
		{"too deep", twelve + "\n{< b >}\n", 13, api.ErrDeep},
		{"a form before too deep", twelve + "{< B >}\n", 12, api.ErrSyntax},
		{"not too deep when some are closed", twelve + "{< /a >}\n{< b >}\n{< /b >}\n" + closed12[9:], 0, api.OK},
		{"one more than is open", twelve + closed12 + "{< /a >}", 24, api.ErrNone},
		{"just not too many parts", full, 0, api.OK},
		{"too many parts", full + "\n{< x />}", 201, api.ErrLarge},
		{"too many parts with a text", full + "\n \na\n", 200, api.ErrLarge},
		{"empty lines are no part", full + "\n \n", 0, api.OK},
		{"too many parts inside", "{< a >}\n" + full + "{< /a >}", 200, api.ErrLarge},
		{"closing lines are no parts", "{< a >}\nb\n" + full[:198*9] + "{< /a >}", 0, api.OK},
		{"too many parts with an open one", full + "{< a >}", 200, api.ErrLarge},
		{"too many parts at the first line of a part", full[:199*9] + "{< a >}\n{< x />}\n{< /a >}", 200, api.ErrLarge},
		{"a form before too many parts", full + "{< a", 200, api.ErrSyntax},
		{"too deep before too many parts", full[:188*9] + twelve + "{< a >}", 200, api.ErrDeep},
		{"too many parts before one that is open", "{< a >}\n" + full, 200, api.ErrLarge},
		{"one is open", "a\n{< a >}\nb", 1, api.ErrState},
		{"two are open", "{< a >}\n\n{< b >}\nb", 2, api.ErrState},
		{"the last one that is open", "{< a >}\n{< b >}\n{< /b >}\n", 0, api.ErrState},
		{"a line before one that is open", "{< a >}\n{< A >}", 1, api.ErrSyntax},
		{"closed in a fence", "{< a >}\n```\n{< /a >}", 0, api.ErrState},
	} {
		l, line, e := page.Split(c.body)
		if line != c.line || e != c.e || e != api.OK && l != nil {
			t.Errorf("%s: %s, line %d, error %d; want line %d, error %d", c.name, short(show(l)), line, e, c.line, c.e)
		}
	}
}

// P6.2: parts as a body.
func TestJoin(t *testing.T) {
	note := around("note", text("b\n"), around("c"), whole("d"))
	note.Args = args("x", "", "k=y z")
	for _, c := range []struct {
		l    []page.Part
		want string
	}{
		{nil, ""},
		{parts(text("a\n")), "a\n"},
		{parts(text("\n \na\n\n")), "\n \na\n\n"},
		{parts(whole("a", `"`, `\`, `\"x`, "k= ", "l=é")), `{< a "\"" "\\" "\\\"x" k=" " l="é" />}` + "\n"},
		{parts(text("a\n"), note, whole("hr")), lines("a", `{< note "x" "" k="y z" >}`, "b", "{< c >}", "{< /c >}", "{< d />}", "{< /note >}", "{< hr />}")},
		{parts(text("```\n{< a >}\n```\n"), whole("b")), "```\n{< a >}\n```\n{< b />}\n"},
		{parts(text("```\n{< a >}\n")), "```\n{< a >}\n"},
		{parts(around("a", around("b", around("c")))), "{< a >}\n{< b >}\n{< c >}\n{< /c >}\n{< /b >}\n{< /a >}\n"},
		{parts(text(wide(api.MaxBody-1) + "\n")), wide(api.MaxBody-1) + "\n"},
		{parts(whole("a", wide(api.MaxBody-12))), `{< a "` + wide(api.MaxBody-12) + "\" />}\n"},
	} {
		s, e := page.Join(c.l)
		expect(t, show(c.l), s, e, c.want, api.OK)
		expect(t, s, split(t, s), api.OK, c.l, api.OK)
	}
}

// P6.2: parts that no body has, and bodies that would be too long.
func TestJoinErrors(t *testing.T) {
	inTwelve := func(p page.Part) page.Part {
		for range 12 {
			p = around("a", p)
		}
		return p
	}
	with := func(p page.Part, change func(p *page.Part)) []page.Part {
		change(&p)
		return parts(p)
	}
	for _, c := range []struct {
		name string
		l    []page.Part
		e    api.Errno
	}{
		{"a text without its end", parts(text("a")), api.ErrForm},
		{"a text without anything", parts(text("")), api.ErrForm},
		{"a text of empty lines", parts(text(" \n\n")), api.ErrForm},
		{"two texts", parts(text("a\n"), text("b\n")), api.ErrForm},
		{"two texts with one between", parts(text("a\n"), whole("b"), text("c\n")), api.OK},
		{"a text with a shortcode", parts(text("a\n{< b />}\n")), api.ErrForm},
		{"a text that closes a shortcode", parts(around("a", text("b\n{< /a >}\n{< a >}\n"))), api.ErrForm},
		{"a text with a byte", parts(text("\x01\n")), api.ErrForm},
		{"a text with a Name", parts(page.Part{Name: "a", Text: "b\n"}), api.ErrForm},
		{"a text with a Name and an end", parts(page.Part{Name: "a", Text: "b\n", Ends: true}), api.ErrForm},
		{"a text with arguments", parts(page.Part{Text: "b\n", Args: args("x")}), api.ErrForm},
		{"a text with an end", parts(page.Part{Text: "b\n", Ends: true}), api.ErrForm},
		{"a text with something inside", parts(page.Part{Text: "b\n", Inner: parts(text("c\n"))}), api.ErrForm},
		{"nothing with something inside", parts(page.Part{Inner: parts(text("c\n"))}), api.ErrForm},
		{"a fence that takes a shortcode in", parts(text("```\n"), whole("a")), api.ErrForm},
		{"a fence that is not closed inside", parts(around("a", text("```\n"))), api.ErrForm},
		{"a fence that is closed elsewhere", parts(around("a", text("```\n")), text("```\n")), api.ErrForm},
		{"a name that is none", parts(whole("A")), api.ErrForm},
		{"a long name", parts(whole(wide(21))), api.ErrForm},
		{"a name that is more", parts(whole("a />}\n{< b")), api.ErrForm},
		{"a whole one with something inside", with(around("a", text("b\n")), func(p *page.Part) { p.Ends = false }), api.ErrForm},
		{"an argument with a bad name", with(whole("a"), func(p *page.Part) { p.Args = []page.Arg{{Name: "K", Value: "v"}} }), api.ErrForm},
		{"an argument with a name that is more", with(whole("a"), func(p *page.Part) { p.Args = []page.Arg{{Name: `x" k`, Value: "v"}} }), api.ErrForm},
		{"two of one name", parts(whole("a", "k=1", "k=1")), api.ErrForm},
		{"an order", parts(whole("a", "k=1", "1")), api.ErrForm},
		{"as many arguments as can be", parts(whole("a", slices.Repeat([]string{"x"}, 12)...)), api.OK},
		{"too many arguments", parts(whole("a", slices.Repeat([]string{"x"}, 13)...)), api.ErrForm},
		{"a value with a tab", parts(whole("a", "\t")), api.ErrForm},
		{"a value with a line feed", parts(whole("a", "\n")), api.ErrForm},
		{"just not too deep", parts(inTwelve(whole("b"))), api.OK},
		{"too deep", parts(around("b", inTwelve(text("c\n")))), api.ErrForm},
		{"just not too many", slices.Repeat(parts(whole("a")), 200), api.OK},
		{"too many", slices.Repeat(parts(whole("a")), 201), api.ErrForm},
		{"too large", parts(text(wide(api.MaxBody) + "\n")), api.ErrLarge},
		{"as large as can be, and not of the form", parts(text(wide(api.MaxBody))), api.ErrForm},
		{"too large, and not of the form", parts(text(wide(api.MaxBody + 1))), api.ErrLarge},
		{"too large with a shortcode", parts(text(wide(api.MaxBody-9)+"\n"), whole("a")), api.ErrLarge},
		{"just not too large with a shortcode", parts(text(wide(api.MaxBody-10)+"\n"), whole("a")), api.OK},
		{"too large with a closing line", parts(text(wide(api.MaxBody-17)+"\n"), around("a")), api.ErrLarge},
		{"just not too large with a closing line", parts(text(wide(api.MaxBody-18)+"\n"), around("a")), api.OK},
		{"too large with a backslash", parts(whole("a", wide(api.MaxBody-13)+`"`)), api.ErrLarge},
		{"a value that is too large", parts(whole("a", wide(api.MaxBody-11))), api.ErrLarge},
		{"a name that is too large", parts(whole(wide(api.MaxBody))), api.ErrLarge},
		{"too large inside", parts(around("a", around("b", text(wide(api.MaxBody))))), api.ErrLarge},
		{"too large with the text of a shortcode", parts(page.Part{Name: "a", Text: wide(api.MaxBody)}), api.ErrLarge},
		{"just too large with the text of a shortcode", parts(page.Part{Name: "a", Text: wide(api.MaxBody - 8)}), api.ErrLarge},
		{"just not too large with the text of a shortcode", parts(page.Part{Name: "a", Text: wide(api.MaxBody - 9)}), api.ErrForm},
		{"too large with the text of a shortcode inside", parts(around("a", page.Part{Name: "b", Text: wide(api.MaxBody)})), api.ErrLarge},
		{"too large with texts of shortcodes in all", slices.Repeat(parts(page.Part{Name: "a", Text: wide(api.MaxBody / 2)}), 2), api.ErrLarge},
		{"what is inside of a whole one is not written", with(around("a", text(wide(api.MaxBody))), func(p *page.Part) { p.Ends = false }), api.ErrForm},
		{"too large before a form", parts(text(wide(api.MaxBody)), whole("A")), api.ErrLarge},
		{"a form before too large", parts(whole("A"), text(wide(api.MaxBody))), api.ErrLarge},
	} {
		s, e := page.Join(c.l)
		if e != c.e || (e == api.OK) != (s != "") {
			t.Errorf("%s: %s, error %d; want %d", c.name, short(s), e, c.e)
		}
	}
}

// P6.2: what is split is as one sees it line by line, and what is joined of it is split into the same parts.
func TestSplitJoin(t *testing.T) {
	r := rand.New(rand.NewSource(1))
	many := 0
	for range 5000 {
		body := randomBody(r, 14)
		l := split(t, body)
		s := &seen{lines: strings.Split(strings.TrimSuffix(body, "\n"), "\n")}
		if want := s.parts(); show(l) != show(want) {
			t.Fatalf("%q\n got %+v\nwant %+v", body, l, want)
		}
		joined, e := page.Join(l)
		if e != api.OK {
			t.Fatalf("%q: error %d joining it", body, e)
		}
		if again := split(t, joined); show(again) != show(l) {
			t.Fatalf("%q\n%+v\n%+v", joined, l, again)
		}
		if len(l) > 2 {
			many++
		}
	}
	if many < 1000 {
		t.Errorf("only %d bodies of three parts", many)
	}
}

// seen reads lines that are right, one by one.
type seen struct {
	lines  []string
	fenced bool
}

// parts are those up to the line that closes what they are in.
func (s *seen) parts() []page.Part {
	var l []page.Part
	for len(s.lines) > 0 {
		line := s.lines[0]
		s.lines = s.lines[1:]
		if p, e := page.Line(line); e == api.OK && !s.fenced {
			if p.Ends {
				p.Inner = s.parts()
			}
			l = append(l, p)
			continue
		}
		if strings.HasPrefix(line, "{< /") && !s.fenced {
			break
		}
		if strings.HasPrefix(line, "```") {
			s.fenced = !s.fenced || line != "```"
		}
		if len(l) == 0 || l[len(l)-1].Name != "" {
			l = append(l, page.Part{})
		}
		l[len(l)-1].Text += line + "\n"
	}
	return slices.DeleteFunc(l, func(p page.Part) bool { return p.Name == "" && strings.TrimSpace(p.Text) == "" })
}
