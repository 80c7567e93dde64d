package page_test

import (
	"strings"
	"testing"

	"masthead/api"
	"masthead/page"
)

// P6.1: the shortcode of a line.
func TestLine(t *testing.T) {
	opens := func(name string, l ...string) page.Part {
		p := whole(name, l...)
		p.Ends = true
		return p
	}
	twelve := strings.Fields("a b c d e f g h i j k l")
	for _, c := range []struct {
		line string
		want page.Part
	}{
		{"{< a >}", opens("a")},
		{"{< a />}", whole("a")},
		{"{< a-0z />}", whole("a-0z")},
		{"{< - />}", whole("-")},
		{"{< 1 />}", whole("1")},
		{"{< " + wide(20) + " />}", whole(wide(20))},
		{"{< a b />}", whole("a", "b")},
		{"{< a b >}", opens("a", "b")},
		{"{< a b c-1 >}", opens("a", "b", "c-1")},
		{"{< a azAZ09-_./: />}", whole("a", "azAZ09-_./:")},
		{"{< a - _ . / />}", whole("a", "-", "_", ".", "/")},
		{"{< a / >}", opens("a", "/")},
		{"{< a // />}", whole("a", "//")},
		{"{< a Z 0 />}", whole("a", "Z", "0")},
		{"{< a k=v />}", whole("a", "k=v")},
		{"{< a b k=v >}", opens("a", "b", "k=v")},
		{"{< a k_0=/x:y />}", whole("a", "k_0=/x:y")},
		{"{< a " + wide(20) + "=v />}", whole("a", wide(20)+"=v")},
		{"{< a k=v l=v />}", whole("a", "k=v", "l=v")},
		{"{< a v v />}", whole("a", "v", "v")},
		{"{< a k k=k />}", whole("a", "k", "k=k")},
		{"{< a k=\"v\" />}", whole("a", "k=v")},
		{"{< a \"\" />}", whole("a", "")},
		{"{< a k=\"\" >}", opens("a", "k=")},
		{"{< a \"b c\" \" \" />}", whole("a", "b c", " ")},
		{`{< a "\"" "\\" "\\\"" "x\\" />}`, whole("a", `"`, `\`, `\"`, `x\`)},
		{`{< a ">} />} {< /a >}" >}`, opens("a", ">} />} {< /a >}")},
		{"{< a \"<'`\x7f\x80\xff\" />}", whole("a", "<'`\x7f\x80\xff")},
		{"{< a " + strings.Join(twelve, " ") + " />}", whole("a", twelve...)},
	} {
		p, e := page.Line(c.line)
		expect(t, c.line, p, e, c.want, api.OK)
	}
	p, e := page.Line(`{< a "k=v" k="a=b" />}`)
	expect(t, "an equals sign in a value", p, e, page.Part{Name: "a", Args: []page.Arg{{Value: "k=v"}, {Name: "k", Value: "a=b"}}}, api.OK)
}

// P6.1: lines that are none of a shortcode, and which error counts first.
func TestLineErrors(t *testing.T) {
	many := strings.Repeat(" x", 13)
	for line, want := range map[string]api.Errno{
		"":                             api.ErrNone,
		"x":                            api.ErrNone,
		"{<":                           api.ErrNone,
		"{<a />}":                      api.ErrNone,
		"{<\ta />}":                    api.ErrNone,
		" {< a />}":                    api.ErrNone,
		"{< /a >}":                     api.ErrNone,
		"{< /":                         api.ErrNone,
		"{< />}":                       api.ErrNone,
		"{< ":                          api.ErrSyntax,
		"{< >}":                        api.ErrSyntax,
		"{<  >}":                       api.ErrSyntax,
		"{< a":                         api.ErrSyntax,
		"{< a>}":                       api.ErrSyntax,
		"{< a/>}":                      api.ErrSyntax,
		"{< a  >}":                     api.ErrSyntax,
		"{< a  />}":                    api.ErrSyntax,
		"{<  a />}":                    api.ErrSyntax,
		"{< a >} ":                     api.ErrSyntax,
		"{< a />}x":                    api.ErrSyntax,
		"{< a />} />}":                 api.ErrSyntax,
		"{< a >}\n":                    api.ErrSyntax,
		"{< a >":                       api.ErrSyntax,
		"{< a }":                       api.ErrSyntax,
		"{< a }}":                      api.ErrSyntax,
		"{< a // >":                    api.ErrSyntax,
		"{< A />}":                     api.ErrSyntax,
		"{< a_b />}":                   api.ErrSyntax,
		"{< a/b />}":                   api.ErrSyntax,
		"{< \x80 />}":                  api.ErrSyntax,
		"{< " + wide(21) + " />}":      api.ErrSyntax,
		"{< a  b />}":                  api.ErrSyntax,
		"{< a b  />}":                  api.ErrSyntax,
		"{< a\tb />}":                  api.ErrSyntax,
		"{< a b\t/>}":                  api.ErrSyntax,
		"{< a :b />}":                  api.ErrSyntax,
		"{< a k=:b />}":                api.ErrSyntax,
		"{< a k= />}":                  api.ErrSyntax,
		"{< a =v />}":                  api.ErrSyntax,
		"{< a k=v=w />}":               api.ErrSyntax,
		"{< a k==v />}":                api.ErrSyntax,
		"{< a K=v />}":                 api.ErrSyntax,
		"{< a 0=v />}":                 api.ErrSyntax,
		"{< a _k=v />}":                api.ErrSyntax,
		"{< a k-l=v />}":               api.ErrSyntax,
		"{< a " + wide(21) + "=v />}":  api.ErrSyntax,
		"{< a k =v />}":                api.ErrSyntax,
		"{< a k= v />}":                api.ErrSyntax,
		"{< a x,y />}":                 api.ErrSyntax,
		"{< a x\x80 />}":               api.ErrSyntax,
		"{< a 'x' />}":                 api.ErrSyntax,
		`{< a " />}`:                   api.ErrSyntax,
		`{< a """ />}`:                 api.ErrSyntax,
		`{< a "\" />}`:                 api.ErrSyntax,
		`{< a "\`:                      api.ErrSyntax,
		`{< a "x`:                      api.ErrSyntax,
		`{< a "\n" />}`:                api.ErrSyntax,
		`{< a "x"y />}`:                api.ErrSyntax,
		`{< a "x""y" />}`:              api.ErrSyntax,
		`{< a x"y" />}`:                api.ErrSyntax,
		`{< a "x"/>}`:                  api.ErrSyntax,
		`{< a "k"=v />}`:               api.ErrSyntax,
		"{< a \"\t\" />}":              api.ErrSyntax,
		"{< a \"\n\" />}":              api.ErrSyntax,
		"{< a \"\x1f\" />}":            api.ErrSyntax,
		"{< a \"\\\x1f\" />}":          api.ErrSyntax,
		"{< a" + many + " />}":         api.ErrLarge,
		"{< a" + many + many + " >}":   api.ErrLarge,
		"{< a" + many + " , />}":       api.ErrSyntax,
		"{< a k=1 k=2" + many + " />}": api.ErrLarge,
		"{< a k=1 k=2 />}":             api.ErrTwice,
		"{< a k=1 l=2 m=3 k=1 />}":     api.ErrTwice,
		"{< a x l=2 k=3 l=\"\" >}":     api.ErrTwice,
		"{< a k=1 k=2 , />}":           api.ErrSyntax,
		"{< a k=1 x k=2 />}":           api.ErrTwice,
		"{< a k=1 x />}":               api.ErrOrder,
		"{< a x k=1 l=1 \"\" >}":       api.ErrOrder,
		"{< a k=1 x l=1 />}":           api.ErrOrder,
	} {
		p, e := page.Line(line)
		expect(t, line, p, e, page.Part{}, want)
	}
}
