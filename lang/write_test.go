package lang_test

import (
	"math"
	"math/rand"
	"slices"
	"strings"
	"testing"

	"masthead/api"
	"masthead/lang"
)

// P8.5: messages as strings.
func TestMessageString(t *testing.T) {
	for want, m := range map[string]lang.Message{
		"":                             message(),
		"a \n\té":                      message(plain("a \n\té")),
		`\{\}\#\\`:                     message(plain(`{}#\`)),
		"{a}{other}":                   message(insert("a"), insert("other")),
		"a{b-_0}c":                     message(plain("a"), insert("b-_0"), plain("c")),
		"{a, choose, x {y} other {z}}": message(choose("a", word("x", plain("y")), word("", plain("z")))),
		"{a, choose, x {} 1 {} A-_ {} other {}}!": message(choose("a", word("x"), word("1"), word("A-_"), word("")), plain("!")),
		"{n, count, other {}}":                    message(count("n", otherCount())),
		"{n, count, =0 {a} 0 {#\\#} =-5 {} 6 {{b}} other {{n, count, other {#}}}}": message(count("n", exact(0, plain("a")), form(0, hash(), plain("#")), exact(-5), form(6, insert("b")), otherCount(count("n", otherCount(hash()))))),
		"{n, count, other {{c, choose, w {#} other {##}}}}":                        message(count("n", otherCount(choose("c", word("w", hash()), word("", hash(), hash()))))),
		"{n, count, =9223372036854775807 {} =-9223372036854775808 {} other {}}":    message(count("n", exact(math.MaxInt), exact(math.MinInt), otherCount())),
	} {
		got, e := lang.MessageString(m)
		expect(t, want, got, e, want, api.OK)
	}
}

// P8.5: what is written can be read.
func TestMessagesAgain(t *testing.T) {
	r := rand.New(rand.NewSource(7))
	for range 10_000 {
		m := message(anyPieces(r, 5, false)...)
		s, e := lang.MessageString(m)
		if e == api.ErrLarge {
			continue
		}
		got, _, again := lang.ReadMessage(s)
		expect(t, s, got, e+again, m, api.OK)
	}
}

// P8.5: messages that are none, whichever function is given them.
func TestMessageErrors(t *testing.T) {
	bad := lang.Piece{Kind: 5}
	long := wide(41)
	twice := choose("a", word("x"), word("x"), word(""))
	for _, x := range []struct {
		name string
		l    []lang.Piece
		e    api.Errno
	}{
		{"Kind 5", []lang.Piece{bad}, api.ErrForm},
		{"Kind -1", []lang.Piece{{Kind: -1, Text: "a"}}, api.ErrForm},
		{"an empty Plain", []lang.Piece{plain("")}, api.ErrForm},
		{"an empty Plain within", []lang.Piece{chosen(insert("a"), plain(""))}, api.ErrForm},
		{"two Plains", []lang.Piece{plain("a"), plain("b")}, api.ErrForm},
		{"two Plains after others", []lang.Piece{insert("a"), plain("a"), insert("b"), plain("a"), plain("b")}, api.ErrForm},
		{"two Plains in two messages", []lang.Piece{plain("a"), chosen(plain("b")), plain("c")}, api.OK},
		{"two Inserts", []lang.Piece{insert("a"), insert("a")}, api.OK},
		{"two Hashes", []lang.Piece{counted(hash(), hash())}, api.OK},
		{"Plain with Ways", []lang.Piece{{Text: "a", Ways: []lang.Way{word("")}}}, api.ErrForm},
		{"Insert with Ways", []lang.Piece{{Kind: lang.Insert, Text: "a", Ways: []lang.Way{word("")}}}, api.ErrForm},
		{"Hash with Ways", []lang.Piece{counted(lang.Piece{Kind: lang.Hash, Ways: []lang.Way{word("")}})}, api.ErrForm},
		{"Hash with Text", []lang.Piece{counted(lang.Piece{Kind: lang.Hash, Text: "a"})}, api.ErrForm},
		{"Choose with Exact", []lang.Piece{choose("a", lang.Way{Word: "x", Exact: 1}, word(""))}, api.ErrForm},
		{"Choose with Form", []lang.Piece{choose("a", lang.Way{Word: "x", Form: 1}, word(""))}, api.ErrForm},
		{"Choose, other with Form", []lang.Piece{choose("a", word("x"), otherCount())}, api.ErrForm},
		{"Choose, other with Exact", []lang.Piece{choose("a", word("x"), lang.Way{Exact: -1})}, api.ErrForm},
		{"Count with Word", []lang.Piece{count("a", lang.Way{Word: "x"}, otherCount())}, api.ErrForm},
		{"Count, other with Word", []lang.Piece{count("a", lang.Way{Word: "other", Form: lang.MaxForms + 1})}, api.ErrForm},
		{"Choose without Ways", []lang.Piece{choose("a")}, api.ErrForm},
		{"Choose with other alone", []lang.Piece{choose("a", word(""))}, api.ErrForm},
		{"Choose without other", []lang.Piece{choose("a", word("x"), word("y"))}, api.ErrForm},
		{"Choose, other elsewhere", []lang.Piece{choose("a", word(""), word("x"))}, api.ErrForm},
		{"Choose, other twice", []lang.Piece{choose("a", word(""), word("x"), word(""))}, api.ErrForm},
		{"Count without Ways", []lang.Piece{count("a")}, api.ErrForm},
		{"Count without other", []lang.Piece{count("a", form(0))}, api.ErrForm},
		{"Count, other elsewhere", []lang.Piece{count("a", otherCount(), form(0))}, api.ErrForm},
		{"Count, other twice", []lang.Piece{count("a", otherCount(), otherCount())}, api.ErrForm},
		{"Count, other with Exact", []lang.Piece{count("a", lang.Way{Form: lang.MaxForms + 1, Exact: 1})}, api.ErrForm},
		{"Hash in nothing", []lang.Piece{hash()}, api.ErrForm},
		{"Hash in a Choose", []lang.Piece{chosen(hash())}, api.ErrForm},
		{"Hash after a Count", []lang.Piece{counted(), hash()}, api.ErrForm},
		{"Hash in a Choose in a Count", []lang.Piece{counted(chosen(hash()))}, api.OK},
		{"an empty name", []lang.Piece{insert("")}, api.ErrForm},
		{"a large letter in a name", []lang.Piece{choose("A", word("x"), word(""))}, api.ErrForm},
		{"a long name", []lang.Piece{insert(long)}, api.ErrForm},
		{"a wide name", []lang.Piece{insert(long[1:])}, api.OK},
		{"a name with a digit", []lang.Piece{count("0", otherCount())}, api.ErrForm},
		{"the name other", []lang.Piece{count("other", otherCount())}, api.OK},
		{"the word other", []lang.Piece{choose("a", word("other"), word(""))}, api.ErrForm},
		{"a word with a blank", []lang.Piece{choose("a", word("x y"), word(""))}, api.ErrForm},
		{"a word with a byte", []lang.Piece{choose("a", word("é"), word(""))}, api.ErrForm},
		{"a word with =", []lang.Piece{choose("a", word("=0"), word(""))}, api.ErrForm},
		{"a long word", []lang.Piece{choose("a", word(long+"-_0"), word(""))}, api.OK},
		{"Form -2", []lang.Piece{count("a", form(-2), otherCount())}, api.ErrForm},
		{"Form 8", []lang.Piece{count("a", form(8), otherCount())}, api.ErrForm},
		{"least Form", []lang.Piece{count("a", form(math.MinInt), otherCount())}, api.ErrForm},
		{"Exact with Form 0", []lang.Piece{count("a", lang.Way{Exact: 1}, otherCount())}, api.ErrForm},
		{"Form 6", []lang.Piece{count("a", form(6), otherCount())}, api.OK},
		{"a byte", []lang.Piece{plain("a\x1f")}, api.ErrByte},
		{"a byte within", []lang.Piece{counted(plain("\r"))}, api.ErrByte},
		{"a byte, then a form", []lang.Piece{plain("\x00"), counted(bad)}, api.ErrForm},
		{"a word twice", []lang.Piece{twice}, api.ErrTwice},
		{"a form twice", []lang.Piece{count("a", form(3), exact(3), form(3), otherCount())}, api.ErrTwice},
		{"a number twice", []lang.Piece{count("a", exact(0), form(0), exact(0), otherCount())}, api.ErrTwice},
		{"a way twice, then a byte", []lang.Piece{twice, chosen(plain("\x00"))}, api.ErrByte},
		{"a word in two Chooses", []lang.Piece{chosen(chosen()), chosen()}, api.OK},
		{"12 messages", []lang.Piece{deepPiece(12, insert("a"))}, api.OK},
		{"13 messages", []lang.Piece{deepPiece(13, insert("a"))}, api.ErrDeep},
		{"13 messages, the last one empty", []lang.Piece{deepPiece(12, counted())}, api.ErrDeep},
		{"13 messages, then a way twice", []lang.Piece{deepPiece(13, insert("a")), twice}, api.ErrTwice},
		{"13 messages, then a byte", []lang.Piece{deepPiece(13, plain("\x00"))}, api.ErrByte},
		{"many messages", []lang.Piece{deepPiece(300_000, insert("a"))}, api.ErrDeep},
		{"many messages, then a form", []lang.Piece{deepPiece(300_000, bad)}, api.ErrForm},
		{"100 pieces", manyInserts(100), api.OK},
		{"101 pieces", manyInserts(101), api.ErrLarge},
		{"101 pieces and 13 messages", append(manyInserts(101), deepPiece(13, insert("a"))), api.ErrDeep},
		{"100 pieces in several", append([]lang.Piece{counted(manyInserts(49)...)}, manyInserts(50)...), api.OK},
		{"101 pieces in several", append([]lang.Piece{counted(manyInserts(50)...)}, manyInserts(50)...), api.ErrLarge},
		{"2000 bytes", []lang.Piece{plain(wide(2000))}, api.OK},
		{"2001 bytes", []lang.Piece{plain(wide(2001))}, api.ErrLarge},
		{"2001 bytes with an Insert", []lang.Piece{plain(wide(1998)), insert("a")}, api.ErrLarge},
		{"2001 bytes with a Hash", []lang.Piece{counted(plain(wide(2001-len("{n, count, other {#}}"))), hash())}, api.ErrLarge},
		{"2000 bytes with a Hash", []lang.Piece{counted(plain(wide(2000-len("{n, count, other {#}}"))), hash())}, api.OK},
		{"2000 bytes with a Choose", []lang.Piece{chosen(plain(wide(2000 - len("{c, choose, w {} other {}}"))))}, api.OK},
		{"2001 bytes with a Choose", []lang.Piece{chosen(plain(wide(2001 - len("{c, choose, w {} other {}}"))))}, api.ErrLarge},
		{"2000 bytes with backslashes", []lang.Piece{plain(strings.Repeat("#", 1000))}, api.OK},
		{"2001 bytes with backslashes", []lang.Piece{plain(strings.Repeat("{", 1000) + "a")}, api.ErrLarge},
		{"many bytes", []lang.Piece{plain(wide(10_000_000)), insert("a"), plain(strings.Repeat("#", 1_000_000))}, api.ErrLarge},
		{"many ways", []lang.Piece{count("n", manyWays(200_000)...)}, api.ErrLarge},
		{"fewer ways", []lang.Piece{count("n", manyWays(150)...)}, api.OK},
	} {
		s, e := lang.MessageString(message(x.l...))
		if e != x.e || e != api.OK && s != "" {
			t.Errorf("%s: %s, error %d, want %d", x.name, short(s), e, x.e)
		}
		names, e := lang.Arguments(message(x.l...))
		if e != x.e || e != api.OK && len(names) != 0 {
			t.Errorf("%s: Arguments: error %d, want %d", x.name, e, x.e)
		}
		if x.e != api.OK {
			s, e = lang.Format(message(x.l...), lang.Language{}, nil)
			expect(t, "Format of "+x.name, s, e, "", x.e)
		}
	}
}

func manyWays(n int) []lang.Way {
	var l []lang.Way
	for i := range n {
		l = append(l, exact(i))
	}
	return append(l, otherCount())
}

// P8.5: Arguments.
func TestArguments(t *testing.T) {
	for _, x := range []struct {
		m    lang.Message
		want []string
	}{
		{message(), nil},
		{message(plain("a")), nil},
		{message(insert("b"), insert("a"), insert("b")), []string{"a", "b"}},
		{message(counted(hash(), insert("z"), chosen(insert("a0"), insert("a-")))), []string{"a-", "a0", "c", "n", "z"}},
		{message(choose("x", word("y", insert("q")), word("", insert("p"))), plain("x")), []string{"p", "q", "x"}},
	} {
		got, e := lang.Arguments(x.m)
		expect(t, show(x.m), got, e, x.want, api.OK)
	}
	r := rand.New(rand.NewSource(8))
	for range 1000 {
		m := message(anyPieces(r, 4, false)...)
		s, e := lang.MessageString(m)
		got, e2 := lang.Arguments(m)
		var want []string
		for _, name := range []string{"a", "b", "c"} {
			bare := strings.NewReplacer(`\\`, "", `\{`, "").Replace(s)
			if strings.Contains(bare, "{"+name+"}") || strings.Contains(bare, "{"+name+", c") {
				want = append(want, name)
			}
		}
		expect(t, s, got, e2, slices.Clip(want), e)
	}
}
