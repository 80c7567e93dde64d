package lang_test

import (
	"fmt"
	"math"
	"math/rand"
	"strings"
	"testing"

	"masthead/api"
	"masthead/lang"
)

// P8.4: what messages are.
func TestReadMessage(t *testing.T) {
	long := wide(40)
	for s, want := range map[string]lang.Message{
		"":                             message(),
		"a":                            message(plain("a")),
		" a\t\n{}"[:4]:                 message(plain(" a\t\n")),
		"é\x7f\xff":                    message(plain("é\x7f\xff")),
		`\{\}\#\\`:                     message(plain(`{}#\`)),
		"#":                            message(plain("#")),
		`a#\#b`:                        message(plain("a##b")),
		"{a}":                          message(insert("a")),
		"a{b}c":                        message(plain("a"), insert("b"), plain("c")),
		"{a}{b}":                       message(insert("a"), insert("b")),
		`\{a\}{b}`:                     message(plain("{a}"), insert("b")),
		"{ \n\ta\t \n}":                message(insert("a")),
		"{a0-_}":                       message(insert("a0-_")),
		"{" + long + "}":               message(insert(long)),
		"{choose}{count}":              message(insert("choose"), insert("count")),
		"{other} {n}":                  message(insert("other"), plain(" "), insert("n")),
		"a, choose, b":                 message(plain("a, choose, b")),
		"{a, choose, x {y} other {z}}": message(choose("a", word("x", plain("y")), word("", plain("z")))),
		"{a,choose,x{}other{}}":        message(choose("a", word("x"), word(""))),
		"{\na\t,\n choose , x\n{ y }\t other \n{\n}\n}":                         message(choose("a", word("x", plain(" y ")), word("", plain("\n")))),
		"{a, choose, A-_9 {} 0 {} -1 {} choose {} others {} Other {} other {}}": message(choose("a", word("A-_9"), word("0"), word("-1"), word("choose"), word("others"), word("Other"), word(""))),
		"{choose, choose, " + long + long + " {} other {}}":                     message(choose("choose", word(long+long), word(""))),
		"{other, count, other {}}":                                              message(count("other", otherCount())),
		"{n, count, =0 {a} 0 {b} 1 {c} other {d}}":                              message(count("n", exact(0, plain("a")), form(0, plain("b")), form(1, plain("c")), otherCount(plain("d")))),
		"{n, count, 6 {} =-1 {} 0 {} =6 {} =10 {} =-20 {} other {}}":            message(count("n", form(6), exact(-1), form(0), exact(6), exact(10), exact(-20), otherCount())),
		"{n, count, =9223372036854775807 {} =-9223372036854775808 {} other {}}": message(count("n", exact(math.MaxInt), exact(math.MinInt), otherCount())),
		"{n,count,=1{#}2{a#}other{##b\\#{n}#}}#":                                message(count("n", exact(1, hash()), form(2, plain("a"), hash()), otherCount(hash(), hash(), plain("b#"), insert("n"), hash())), plain("#")),
		"{n, count, other {{c, choose, w {#} other {a#}}#}}":                    message(count("n", otherCount(choose("c", word("w", hash()), word("", plain("a"), hash())), hash()))),
		"{c, choose, w {#{n, count, other {#}}#} other {#}}":                    message(choose("c", word("w", plain("#"), count("n", otherCount(hash())), plain("#")), word("", plain("#")))),
		"{n, count, 0 {{n, count, 0 {#} other {}}} other {}}":                   message(count("n", form(0, count("n", form(0, hash()), otherCount())), otherCount())),
	} {
		got, at, e := lang.ReadMessage(s)
		expect(t, s, got, e, want, api.OK)
		if at != 0 {
			t.Errorf("%s: position %d", s, at)
		}
	}
}

// P8.4: what messages are not, and where.
func TestReadMessageErrors(t *testing.T) {
	long := wide(41)
	for _, x := range []struct {
		s  string
		at int
		e  api.Errno
	}{
		{"\x00", 0, api.ErrByte}, {"ab\x1f{", 2, api.ErrByte}, {"a\r", 1, api.ErrByte}, {"a\v}", 1, api.ErrByte}, {"{a}\x08", 3, api.ErrByte}, {"\\\x01", 1, api.ErrByte}, {"{\x01", 1, api.ErrByte}, {"{a\x01", 2, api.ErrByte}, {"{a,\x01", 3, api.ErrByte}, {"{a,choose\x01", 9, api.ErrByte}, {"{a,choose,x\x01", 11, api.ErrByte}, {"{a,choose,x{\x01", 12, api.ErrByte}, {"{a,choose,x{}\x01", 13, api.ErrByte}, {"{a,choose,x{}other{}\x01", 20, api.ErrByte}, {"{a \n\r}", 4, api.ErrByte}, {"{A\x01", 1, api.ErrSyntax}, {"{a,count,=\x01", 9, api.ErrSyntax}, {"{n,count,other{#\x02", 16, api.ErrByte},
		{"}", 0, api.ErrSyntax}, {"a}b", 1, api.ErrSyntax}, {"{a}}", 3, api.ErrSyntax}, {"\\{}", 2, api.ErrSyntax}, {"\\", 1, api.ErrSyntax}, {"a\\b", 2, api.ErrSyntax}, {"\\ ", 1, api.ErrSyntax}, {"\\é", 1, api.ErrSyntax}, {"\\\\\\n", 3, api.ErrSyntax}, {"{n,count,other{\\", 16, api.ErrSyntax}, {"{n,count,other{\\}", 17, api.ErrSyntax},
		{"{", 1, api.ErrSyntax}, {"{ ", 2, api.ErrSyntax}, {"{}", 1, api.ErrSyntax}, {"{ }", 2, api.ErrSyntax}, {"{,", 1, api.ErrSyntax}, {"{{a}}", 1, api.ErrSyntax}, {"{\\a}", 1, api.ErrSyntax}, {"{#}", 1, api.ErrSyntax}, {"{é}", 1, api.ErrSyntax}, {"{=a}", 1, api.ErrSyntax}, {"{0a}", 1, api.ErrSyntax}, {"{-a}", 1, api.ErrSyntax}, {"{_}", 1, api.ErrSyntax}, {"{aB}", 1, api.ErrSyntax}, {"{ aB", 2, api.ErrSyntax}, {"{A", 1, api.ErrSyntax}, {"{" + long + "}", 1, api.ErrSyntax}, {"{a.b}", 2, api.ErrSyntax}, {"{aé}", 2, api.ErrSyntax}, {"{a=}", 2, api.ErrSyntax}, {"{a", 2, api.ErrSyntax}, {"{a ", 3, api.ErrSyntax}, {"{a b}", 3, api.ErrSyntax}, {"{a{}", 2, api.ErrSyntax}, {"{a;", 2, api.ErrSyntax}, {"{a\\}", 2, api.ErrSyntax},
		{"{a,", 3, api.ErrSyntax}, {"{a,}", 3, api.ErrSyntax}, {"{a,,", 3, api.ErrSyntax}, {"{a, pick", 4, api.ErrSyntax}, {"{a, choos", 4, api.ErrSyntax}, {"{a, choosex", 4, api.ErrSyntax}, {"{a, Choose,", 4, api.ErrSyntax}, {"{a, counted,", 4, api.ErrSyntax}, {"{a, =choose", 4, api.ErrSyntax}, {"{a, other {}}", 4, api.ErrSyntax}, {"{a, choose", 10, api.ErrSyntax}, {"{a, choose ", 11, api.ErrSyntax}, {"{a, choose}", 10, api.ErrSyntax}, {"{a, choose x {} other {}}", 11, api.ErrSyntax}, {"{a, choose{", 10, api.ErrSyntax}, {"{a, count;", 9, api.ErrSyntax}, {"{a, count=0", 9, api.ErrSyntax},
		{"{a, choose,", 11, api.ErrSyntax}, {"{a, choose,}", 11, api.ErrSyntax}, {"{a, choose, }", 12, api.ErrSyntax}, {"{a, choose, {} other {}}", 12, api.ErrSyntax}, {"{a, choose, other {}}", 12, api.ErrSyntax}, {"{a, choose, other", 12, api.ErrSyntax}, {"{a, choose, =x {} other {}}", 12, api.ErrSyntax}, {"{a, choose, =0 {} other {}}", 12, api.ErrSyntax}, {"{a, choose, é {}", 12, api.ErrSyntax}, {"{a, choose, xé {}", 13, api.ErrSyntax}, {"{a, choose, x", 13, api.ErrSyntax}, {"{a, choose, x ", 14, api.ErrSyntax}, {"{a, choose, x y", 14, api.ErrSyntax}, {"{a, choose, x}", 13, api.ErrSyntax}, {"{a, choose, x, y", 13, api.ErrSyntax}, {"{a, choose, x {", 15, api.ErrSyntax}, {"{a, choose, x {}", 16, api.ErrSyntax}, {"{a, choose, x {}}", 16, api.ErrSyntax}, {"{a, choose, x {},", 16, api.ErrSyntax}, {"{a, choose, x {} =0 {}", 17, api.ErrSyntax},
		{"{a, choose, x {} other", 22, api.ErrSyntax}, {"{a, choose, x {} other {}", 25, api.ErrSyntax}, {"{a, choose, x {} other {} ", 26, api.ErrSyntax}, {"{a, choose, x {} other {} y {}}", 26, api.ErrSyntax}, {"{a, choose, x {} other {} other {}}", 26, api.ErrSyntax}, {"{a, choose, x {} other {}, ", 25, api.ErrSyntax}, {"{a, choose, x {} other {}}}", 26, api.ErrSyntax}, {"{a, choose, x {}} other {}}", 16, api.ErrSyntax}, {"{a, choose, x {}}} other {}}", 16, api.ErrSyntax}, {"{a, choose, x {{}} other {}}", 16, api.ErrSyntax},
		{"{a, choose, x {} x", 17, api.ErrTwice}, {"{a, choose, x {} y {} x {} other {}}", 22, api.ErrTwice}, {"{a, choose, x {} X {} other {}}", 0, api.OK}, {"{a, choose, x {{b, choose, x {} other {}}} other {}}", 0, api.OK}, {"{a, choose, x {} \n x\x01", 19, api.ErrTwice}, {"{a, choose, x {} =x", 17, api.ErrSyntax},
		{"{n, count, }", 11, api.ErrSyntax}, {"{n, count, {}", 11, api.ErrSyntax}, {"{n, count, 7 {}", 11, api.ErrSyntax}, {"{n, count, 00 {}", 11, api.ErrSyntax}, {"{n, count, 10 {}", 11, api.ErrSyntax}, {"{n, count, -1 {}", 11, api.ErrSyntax}, {"{n, count, x {}", 11, api.ErrSyntax}, {"{n, count, 0x {}", 11, api.ErrSyntax}, {"{n, count, / {}", 11, api.ErrSyntax}, {"{n, count, others {}", 11, api.ErrSyntax}, {"{n, count, =other {}}", 11, api.ErrSyntax}, {"{n, count, = {}", 11, api.ErrSyntax}, {"{n, count, = 0 {}", 11, api.ErrSyntax}, {"{n, count, ==0 {}", 11, api.ErrSyntax}, {"{n, count, =00 {}", 11, api.ErrSyntax}, {"{n, count, =01 {}", 11, api.ErrSyntax}, {"{n, count, =-0 {}", 11, api.ErrSyntax}, {"{n, count, =-01 {}", 11, api.ErrSyntax}, {"{n, count, =- {}", 11, api.ErrSyntax}, {"{n, count, =--1 {}", 11, api.ErrSyntax}, {"{n, count, =+1 {}", 11, api.ErrSyntax}, {"{n, count, =1a {}", 11, api.ErrSyntax}, {"{n, count, =1_0 {}", 11, api.ErrSyntax}, {"{n, count, =1-1 {}", 11, api.ErrSyntax}, {"{n, count, =1.0 {}", 13, api.ErrSyntax}, {"{n, count, 0 {} 7", 16, api.ErrSyntax}, {"{n, count, =1=2 {}", 13, api.ErrSyntax},
		{"{n, count, =9223372036854775808", 11, api.ErrRange}, {"{n, count, =-9223372036854775809 {}", 11, api.ErrRange}, {"{n, count, =" + strings.Repeat("9", 500), 11, api.ErrRange}, {"{n, count, =0" + strings.Repeat("9", 500), 11, api.ErrSyntax}, {"{n, count, =99999999999999999999x", 11, api.ErrSyntax},
		{"{n, count, 0 {} 0", 16, api.ErrTwice}, {"{n, count, =0 {} 0 {} =0 {} other {}}", 22, api.ErrTwice}, {"{n, count, =1 {} =-1 {} 1 {} =-1 {}", 29, api.ErrTwice}, {"{n, count, other {} other {}}", 20, api.ErrSyntax}, {"{n, count, other {} 0 {}}", 20, api.ErrSyntax}, {"{n, count, other {}", 19, api.ErrSyntax}, {"{n, count, 0 {{n, count, 0 {} other {}}} other {}}", 0, api.OK},
		{"{n, count, other {{}}}", 19, api.ErrSyntax}, {"{n, count, other {a}b}}", 20, api.ErrSyntax},
	} {
		m, at, e := lang.ReadMessage(x.s)
		if e == api.OK {
			m = lang.Message{}
		}
		expect(t, x.s, show(m)+show(at), e, show(lang.Message{})+show(x.at), x.e)
	}
}

// P8.4: how large messages can be, and how deep.
func TestLargeMessages(t *testing.T) {
	deep := func(n int, s string) string {
		return strings.Repeat("{n,count,other{", n-1) + s + strings.Repeat("}}", n-1)
	}
	some := func(n int) string { return strings.Repeat("{a}", n) }
	for _, x := range []struct {
		s  string
		at int
		e  api.Errno
	}{
		{wide(2000), 0, api.OK}, {wide(2001), 0, api.ErrLarge}, {strings.Repeat("#", 2000), 0, api.OK}, {"}" + wide(2000), 0, api.ErrLarge}, {strings.Repeat("\\#", 1000), 0, api.OK}, {strings.Repeat("\x01", 3000), 0, api.ErrLarge},
		{deep(12, ""), 0, api.OK}, {deep(12, "{a}"), 0, api.OK}, {deep(13, ""), 15*12 - 1, api.ErrDeep}, {deep(13, "\x01"), 15*12 - 1, api.ErrDeep}, {deep(12, "{c,choose, x "), 178, api.ErrSyntax}, {deep(12, "{c,choose,x{}"), 176, api.ErrDeep}, {deep(12, "{c,choose,x\n {}"), 178, api.ErrDeep}, {deep(12, "{n,count,0"), 175, api.ErrSyntax}, {"a" + deep(11, "{c,choose,x{}other{}}{n,count,0{} 0{}"), 0, api.ErrTwice},
		{some(100), 0, api.OK}, {some(101), 300, api.ErrLarge}, {some(100) + "a", 300, api.ErrLarge}, {some(100) + "\\", 300, api.ErrLarge}, {some(100) + "\\a", 300, api.ErrLarge}, {some(100) + "{", 300, api.ErrLarge}, {some(100) + "{A", 300, api.ErrLarge}, {some(100) + "\x01", 300, api.ErrByte}, {some(100) + "}", 300, api.ErrSyntax}, {some(100) + "a\x01", 300, api.ErrLarge},
		{"{n,count,other{" + strings.Repeat("#", 99) + "}}", 0, api.OK}, {"{n,count,other{" + strings.Repeat("#", 100) + "}}", 114, api.ErrLarge}, {"{n,count,0{" + some(49) + "}other{" + some(50) + "}}", 0, api.OK}, {"{n,count,0{" + some(49) + "}other{" + some(50) + "}} ", 317, api.ErrLarge}, {"{n,count,0{" + some(50) + "}other{" + some(50) + "}}", 315, api.ErrLarge}, {"a" + some(98) + "{c,choose,x{}other{}}", 0, api.OK}, {"a" + some(98) + "{c,choose,x{}other{b}}", 314, api.ErrLarge}, {"a" + some(99) + "{c,choose,x{}other{}}", 298, api.ErrLarge},
		{strings.Repeat("a{b}", 50), 0, api.OK}, {strings.Repeat("a{b}", 51), 200, api.ErrLarge},
	} {
		if strings.HasPrefix(x.s, "a{n,count") {
			x.at = strings.LastIndex(x.s, "0{}")
		}
		m, at, e := lang.ReadMessage(x.s)
		if e == api.OK {
			m = lang.Message{}
		}
		expect(t, x.s, show(m)+show(at), e, show(lang.Message{})+show(x.at), x.e)
	}
	ways, want := "{n,count,", count("n")
	for i := range 150 {
		ways, want.Ways = ways+fmt.Sprintf("=%d{}", i), append(want.Ways, exact(i))
	}
	want.Ways = append(want.Ways, otherCount())
	m, _, e := lang.ReadMessage(ways + "other{}}")
	expect(t, "150 ways", m, e, message(want), api.OK)
	_, at, e := lang.ReadMessage(ways + "=77{}other{}}")
	expect(t, "a way twice", at, e, len(ways), api.ErrTwice)
}

// automaton reads a message byte by byte, with what is open in a list: it knows where the first error is.
type automaton struct {
	open    []opened
	pieces  int
	inPlain bool
	state   string // what can come next: in braces the name of a part
	token   string
	from    int // where the token begins
}

// opened is a message that has begun, and the piece in which it is.
type opened struct {
	counted bool
	kind    string
	there   map[string]bool
	last    bool // the way for all others
}

// run is where a string is wrong, and how.
func (a *automaton) run(s string) (int, api.Errno) {
	a.open, a.state = []opened{{}}, "text"
	for i := range len(s) {
		if at, e := a.step(s, i); e != api.OK {
			return at, e
		}
	}
	if a.token != "" {
		if at, e := a.ends(a.from); e != api.OK {
			return at, e
		}
	}
	if a.state != "text" || len(a.open) > 1 {
		return len(s), api.ErrSyntax
	}
	return 0, api.OK
}

func (a *automaton) step(s string, i int) (int, api.Errno) {
	c := s[i]
	isToken := c == '-' || c == '_' || c >= '0' && c <= '9' || c >= 'a' && c <= 'z' || c >= 'A' && c <= 'Z'
	inBraces := a.state != "text" && a.state != "escaped"
	if inBraces && isToken || inBraces && c == '=' && a.token == "" {
		if a.token == "" {
			a.from = i
		}
		a.token += string(c)
		return 0, api.OK
	}
	if a.token != "" {
		if at, e := a.ends(a.from); e != api.OK {
			return at, e
		}
	}
	switch {
	case c < 32 && c != '\t' && c != '\n':
		return i, api.ErrByte
	case a.state == "text":
		return i, a.text(c)
	case a.state == "escaped":
		a.state = "text"
		if strings.Contains(`{}#\`, string(c)) {
			return 0, api.OK
		}
		return i, api.ErrSyntax
	case c == ' ' || c == '\t' || c == '\n':
		return 0, api.OK
	}
	return i, a.sign(c)
}

func (a *automaton) text(c byte) api.Errno {
	top := a.open[len(a.open)-1]
	if c == '}' && len(a.open) == 1 {
		return api.ErrSyntax
	}
	if c == '}' {
		a.inPlain, a.state = false, "way"
		if top.last {
			a.state = "end"
		}
		return api.OK
	}
	isHash := c == '#' && top.counted
	if a.inPlain = a.inPlain && c != '{' && !isHash; !a.inPlain {
		a.pieces++
		a.inPlain = c != '{' && !isHash
	}
	if a.pieces > lang.MaxPieces {
		return api.ErrLarge
	}
	if c == '{' {
		a.state = "name"
	}
	if c == '\\' {
		a.state = "escaped"
	}
	return api.OK
}

// ends looks at a whole token.
func (a *automaton) ends(from int) (int, api.Errno) {
	s := a.token
	a.token = ""
	top := &a.open[len(a.open)-1]
	switch {
	case a.state == "name" && s[0] >= 'a' && s[0] <= 'z' && s == strings.ToLower(s) && len(s) <= 40:
		a.state = "after name"
	case a.state == "kind" && (s == "choose" || s == "count"):
		a.state = "after " + s
	case a.state == "way" && s == "other" && (top.kind == "count" || len(top.there) > 0):
		top.last, a.state = true, "message"
	case a.state == "way" && s != "other" && (top.kind == "choose" && s[0] != '=' || top.kind == "count" && (s[0] == '=' || len(s) == 1 && s >= "0" && s <= "6")):
		if s[0] == '=' {
			var n int
			if _, err := fmt.Sscan(s[1:], &n); fmt.Sprint("=", n) != s {
				digits := strings.TrimPrefix(s[1:], "-")
				if err != nil && len(digits) > 18 && digits[0] != '0' && strings.Trim(digits, "0123456789") == "" {
					return from, api.ErrRange
				}
				return from, api.ErrSyntax
			}
		}
		if top.there[s] {
			return from, api.ErrTwice
		}
		top.there[s], a.state = true, "message"
	default:
		return from, api.ErrSyntax
	}
	return 0, api.OK
}

// sign looks at a byte between tokens.
func (a *automaton) sign(c byte) api.Errno {
	top := a.open[len(a.open)-1]
	switch {
	case c == '}' && a.state == "after name":
		a.state = "text"
	case c == '}' && a.state == "end":
		a.open, a.state = a.open[:len(a.open)-1], "text"
	case c == ',' && a.state == "after name":
		a.state = "kind"
	case c == ',' && strings.HasPrefix(a.state, "after c"):
		kind := a.state[len("after "):]
		a.open = append(a.open, opened{counted: top.counted || kind == "count", kind: kind, there: map[string]bool{}})
		a.state = "way"
	case c == '{' && a.state == "message":
		if len(a.open) > api.MaxDeep {
			return api.ErrDeep
		}
		a.state, a.inPlain = "text", false
	default:
		return api.ErrSyntax
	}
	return api.OK
}

var bits = []string{"{", "{", "{n", "}", "}", "}}", "#", `\`, "a", "A", "é", " ", "\n", ",", ",", "=", "=0", "0", "6", "7", "-", "x", "other", "other{", "other {}}", "choose", "count", "{n,count,", "{a, choose, x {", "{a}", "\x01", "=-5", "=9223372036854775808", "0{#}", "x{}"}

// P8.4: messages with flaws, and strings of bits of messages, held against an automaton.
func TestReadMessageOfAnything(t *testing.T) {
	r := rand.New(rand.NewSource(6))
	var seen [20]int
	for range 60_000 {
		var s string
		switch r.Intn(3) {
		case 0:
			for range r.Intn(12) {
				s += bits[r.Intn(len(bits))]
			}
		case 1:
			s = strings.Repeat([]string{"{n,count,other{", "{c , choose,x{}other {", "{a}", "#b"}[r.Intn(4)], r.Intn(14)*(1+r.Intn(8)))
			s += bits[r.Intn(len(bits))]
		default:
			s, _ = lang.MessageString(message(anyPieces(r, 4, false)...))
			for range r.Intn(3) {
				i := r.Intn(len(s) + 1)
				s = s[:i] + bits[r.Intn(len(bits))] + s[min(len(s), i+r.Intn(3)):]
			}
		}
		if len(s) > lang.MaxMessage {
			continue
		}
		wantAt, want := new(automaton).run(s)
		m, at, e := lang.ReadMessage(s)
		if e != want || e != api.OK && (at != wantAt || len(m.Pieces) != 0) {
			t.Errorf("%q\n got %d, error %d\nwant %d, error %d", s, at, e, wantAt, want)
		}
		seen[e]++
	}
	for _, e := range []api.Errno{api.OK, api.ErrByte, api.ErrSyntax, api.ErrTwice, api.ErrRange, api.ErrDeep, api.ErrLarge} {
		if seen[e] < 10 {
			t.Errorf("error %d: %d times", e, seen[e])
		}
	}
}
