package mark_test

import (
	"math"
	"math/rand"
	"slices"
	"strings"
	"sync"
	"testing"

	"masthead/api"
	"masthead/mark"
)

// callAll calls each function that has a document; the results as one string.
func callAll(d []mark.Node) string {
	var b strings.Builder
	add := func(e api.Errno, parts ...string) {
		b.WriteString(strings.Join(parts, "\x00"))
		b.WriteByte(byte('a' + e))
	}
	add(mark.Check(d))
	if mark.Printable(d) && mark.Same(d, d) {
		b.WriteByte('!')
	}
	printed, e := mark.Print(d)
	add(e, printed)
	html, e := mark.HTML(d)
	add(e, html)
	ids, e := mark.Ids(d)
	add(e, ids...)
	html, e = mark.Render(d, ids)
	add(e, html)
	plain, e := mark.Plain(d)
	add(e, plain)
	_, e = mark.Words(d)
	add(e)
	entries, e := mark.Contents(d)
	add(e)
	for _, x := range entries {
		add(e, x.Id, x.Text)
		part, e := mark.Section(d, x.Id)
		add(e, show(part))
	}
	_, e = mark.Nested(entries)
	add(e)
	part, _, e := mark.Summary(d, 5)
	add(e, show(part))
	targets, e := mark.Targets(d)
	add(e, targets...)
	part, e = mark.Relink(d, targets)
	add(e, show(part))
	part, e = mark.Shift(d, 1)
	add(e, show(part))
	return b.String()
}

// randomText is a string of pieces that mean something.
func randomText(r *rand.Rand, pieces []string, most int) string {
	var b strings.Builder
	for range r.Intn(most) {
		b.WriteString(pieces[r.Intn(len(pieces))])
	}
	return b.String()
}

// pieces of markup.
var pieces = []string{
	"\n", "\n", "\n\n", " ", "  ", "\t", "a", "b c", "# ", "### ", "> ", ">", "- ", "1. ", "10. ", "---", "```", "```\n", "| ", " |\n", " | ", "*", "**", "[", "]", "](x)",
	"](y \"z\")", "![", "`", "``", "\\", "!", "\\\n", "\xc3\xb6", "&", "<", "\"", "(", ")", "  - ", "   ",
}

// randomNode is a node with fields that fit or do not.
func randomNode(r *rand.Rand, depth int) mark.Node {
	strs := []string{"", "", "a", " a", "\n", "\x01", "a:b", "`", "|"}
	n := mark.Node{Kind: r.Intn(22) - 1, Level: []int{0, 0, 0, 1, -1, 7, math.MinInt, math.MaxInt}[r.Intn(8)], Text: strs[r.Intn(len(strs))]}
	if r.Intn(2) == 0 {
		n.Dest, n.Title = strs[r.Intn(len(strs))], strs[r.Intn(len(strs))]
	}
	for range r.Intn(3) {
		if depth > 0 {
			n.Kids = append(n.Kids, randomNode(r, depth-1))
		}
	}
	return n
}

// Z1: no call panics, for documents that are not valid and for all strings.
func TestNothingPanics(t *testing.T) {
	r := rand.New(rand.NewSource(1))
	for range 20_000 {
		callAll(doc(randomNode(r, 4), randomNode(r, 2)))
	}
	for range 20_000 {
		b := make([]byte, r.Intn(30))
		for i := range b {
			b[i] = byte(r.Intn(256))
		}
		s := string(b)
		l, _ := mark.Parse(s)
		callAll(l)
		mark.Inlines(s)
		mark.Slug(s)
		mark.Unescape(s)
		if mark.Unescape(mark.Escape(s)) != s {
			t.Fatalf("Unescape of Escape(%q)", s)
		}
	}
	callAll(deep(100_000, many(10, mark.Node{Kind: -1})...))
}

// Z1 and P1.6: what Parse and Inlines return is valid; P1.8: what is printable is read again.
func TestParseRandom(t *testing.T) {
	r := rand.New(rand.NewSource(2))
	printed := 0
	for range 30_000 {
		s := randomText(r, pieces, 40)
		l, e := mark.Parse(s)
		if e != api.OK && e != api.ErrDeep {
			t.Fatalf("Parse(%q): error %d", s, e)
		}
		if e := mark.Check(l); e != api.OK {
			t.Fatalf("Parse(%q) is not valid: %d", s, e)
		}
		if i, e := mark.Inlines(s); e != api.OK || mark.Check(doc(para(i...))) != api.OK {
			t.Fatalf("Inlines(%q): error %d, or not valid", s, e)
		}
		again, e := mark.Print(l)
		if mark.Printable(l) != (e == api.OK) {
			t.Fatalf("%q: Print has error %d", s, e)
		}
		if back, e2 := mark.Parse(again); e == api.OK && (e2 != api.OK || !mark.Same(back, l)) {
			t.Fatalf("%q is printed as %q, and read as\n%s\nnot as\n%s", s, again, show(back), show(l))
		}
		if e == api.OK && again != "" {
			printed++
		}
	}
	if printed < 1000 {
		t.Errorf("only %d documents were printable", printed)
	}
}

// everything is a document with all kinds; with room behind its lists, and something there.
func everything() []mark.Node {
	l := doc(
		heading(1, str("a")), heading(2, str("a"), emph(link("b", "c", str("d"), image("e", "f", "g")))),
		fence("go", "x\n"), quote(text("h"), list(3, item(text("i")), item(heading(1, str("j"))))), rule(),
		table(row(cell(str("k")), cell(strong(code("l"))))), para(str("m"), soft(), str("n"), hard(), str("o")))
	return withRoom(l)
}

// withRoom copies lists into longer ones.
func withRoom(l []mark.Node) []mark.Node {
	if len(l) == 0 {
		return nil
	}
	room := make([]mark.Node, len(l)+2)
	for i, n := range l {
		n.Kids = withRoom(n.Kids)
		room[i] = n
	}
	for i := len(l); i < len(room); i++ {
		room[i] = mark.Node{Kind: -7, Text: "behind"}
	}
	return room[:len(l)]
}

// behindIsSame says whether what is behind the lists is as withRoom has made it.
func behindIsSame(l []mark.Node) bool {
	if len(l) == 0 {
		return true
	}
	for _, n := range l[len(l):cap(l)] {
		if !mark.Same(doc(n), doc(mark.Node{Kind: -7, Text: "behind"})) {
			return false
		}
	}
	return !slices.ContainsFunc(l, func(n mark.Node) bool { return !behindIsSame(n.Kids) })
}

// spoil changes all that a document has, and what is behind its lists.
func spoil(l []mark.Node) {
	for i := range l {
		spoil(l[i].Kids)
	}
	l = l[:cap(l)]
	for i := range l {
		l[i] = mark.Node{Kind: -9, Text: "spoilt"}
	}
}

// results are all documents that functions make of a document.
func results(d []mark.Node) [][]mark.Node {
	section, _ := mark.Section(d, "a")
	all, _, _ := mark.Summary(d, api.MaxBody)
	part, _, _ := mark.Summary(d, 1)
	relinked, _ := mark.Relink(d, []string{"b", "e"})
	shifted, _ := mark.Shift(d, 0)
	printed, _ := mark.Print(d)
	parsed, _ := mark.Parse(printed)
	return [][]mark.Node{section, all, part, relinked, shifted, parsed}
}

// Z2: arguments stay as they are, and results are in memory of their own.
func TestArgumentsAndResults(t *testing.T) {
	d := everything()
	if mark.Check(d) != api.OK || !mark.Printable(d) {
		t.Fatal("the document is not what it should be")
	}
	callAll(d)
	for i, l := range results(d) {
		if len(l) == 0 {
			t.Fatalf("result %d is empty", i)
		}
		spoil(l)
		if !mark.Same(d, everything()) || !behindIsSame(d) {
			t.Fatalf("result %d shares memory with the argument, or the call has changed it", i)
		}
	}
	got := results(d)
	var before []string
	for _, l := range got {
		before = append(before, show(l))
	}
	spoil(d)
	for i, l := range got {
		if after := show(l); after != before[i] {
			t.Errorf("result %d has changed with the argument, or with another result:\n%s\n%s", i, before[i], after)
		}
		spoil(l)
	}
	targets := []string{"x", "y", "behind"}
	if _, e := mark.Relink(everything(), targets[:2]); e != api.OK || !slices.Equal(targets, []string{"x", "y", "behind"}) {
		t.Errorf("Relink: error %d, the targets are now %q", e, targets)
	}
	ids := []string{"x", "y", "z", "behind"}
	if _, e := mark.Render(everything(), ids[:3]); e != api.OK || !slices.Equal(ids, []string{"x", "y", "z", "behind"}) {
		t.Errorf("Render: error %d, the ids are now %q", e, ids)
	}
	entries := []mark.Entry{{Level: 1}, {Level: 2}, {Level: 9}}
	if l, e := mark.Nested(entries[:2]); e != api.OK || !slices.Equal(l, []int{-1, 0}) || !slices.Equal(entries, []mark.Entry{{Level: 1}, {Level: 2}, {Level: 9}}) {
		t.Errorf("Nested: %v, error %d, the entries are now %v", l, e, entries)
	}
}

// Z2: to append to one list of a result changes no other one.
func TestResultsShareNoLists(t *testing.T) {
	d := everything()
	for i, l := range results(d) {
		before := show(l)
		grow(l)
		if after := show(l); after != before {
			t.Errorf("result %d: lists share memory:\n%s\n%s", i, before, after)
		}
	}
}

// grow appends to all lists of a document, and forgets what comes of it.
func grow(l []mark.Node) {
	for _, n := range l {
		grow(n.Kids)
	}
	_ = append(l, mark.Node{Kind: -8}, mark.Node{Kind: -8})
}

// Z5: empty and nil lists are the same.
func TestEmptyLists(t *testing.T) {
	none := []mark.Node{}
	if callAll(none) != callAll(nil) {
		t.Error("an empty document is not as nil is")
	}
	if l, e := mark.Nested([]mark.Entry{}); e != api.OK || len(l) != 0 {
		t.Errorf("Nested: %v, error %d", l, e)
	}
	if _, e := mark.Render(none, []string{}); e != api.OK {
		t.Errorf("Render: error %d", e)
	}
	if _, e := mark.Relink(none, []string{}); e != api.OK {
		t.Errorf("Relink: error %d", e)
	}
	d := doc(rule(), quote(), list(-1))
	for i := range d {
		d[i].Kids = []mark.Node{}
	}
	if callAll(d) != callAll(doc(rule(), quote(), list(-1))) {
		t.Error("empty Kids are not as nil is")
	}
}

// Z6: much at once.
func TestMuch(t *testing.T) {
	long := strings.Repeat("<a&b>", 1_000_000)
	if s := mark.Escape(long); len(s) != 15_000_000 || mark.Unescape(s) != long {
		t.Errorf("Escape has %d bytes", len(s))
	}
	if s := mark.Slug(long); len(s) != 4*1_000_000-1 {
		t.Errorf("Slug has %d bytes", len(s))
	}
	l := many(200_000, text("a"))
	if !mark.Same(l, many(200_000, text("a"))) || mark.Same(l, append(many(199_999, text("a")), text("b"))) {
		t.Error("Same of many nodes")
	}
	words := strings.Repeat("ab ", 500_000)
	if n, e := mark.Words(doc(text(words), fence("", words))); e != api.OK || n != 1_000_000 {
		t.Errorf("%d words, error %d", n, e)
	}
}

// Z7: the same arguments give the same results, in whatever order goroutines run.
func TestSameResults(t *testing.T) {
	r := rand.New(rand.NewSource(3))
	var texts, want []string
	for range 50 {
		s := randomText(r, pieces, 200)
		l, _ := mark.Parse(s)
		texts, want = append(texts, s), append(want, callAll(l))
	}
	var wait sync.WaitGroup
	for range 8 {
		wait.Go(func() {
			for i, s := range texts {
				if l, _ := mark.Parse(s); callAll(l) != want[i] {
					t.Errorf("%q has other results the second time", s)
				}
			}
		})
	}
	wait.Wait()
}

// Z9: no number is too great or too little to be refused.
func TestGreatNumbers(t *testing.T) {
	d := doc(heading(1, str("a")), list(9999, item(text("a")), item(text("b"))))
	for _, n := range []int{math.MinInt, math.MinInt + 1, math.MinInt32, -api.MaxBody - 1, api.MaxBody + 1, math.MaxInt32, math.MaxInt - 1, math.MaxInt} {
		if _, e := mark.Shift(d, n); e != api.ErrRange {
			t.Errorf("Shift by %d: error %d", n, e)
		}
		if _, _, e := mark.Summary(d, n); e != api.ErrRange {
			t.Errorf("Summary of %d words: error %d", n, e)
		}
		if _, e := mark.Nested([]mark.Entry{{Level: 1}, {Level: n}}); e != api.ErrRange {
			t.Errorf("Nested with Level %d: error %d", n, e)
		}
		if e := mark.Check(doc(heading(n))); e != api.ErrRange {
			t.Errorf("a Heading with Level %d: error %d", n, e)
		}
		if e := mark.Check(doc(list(n))); e != api.ErrRange {
			t.Errorf("a List with Level %d: error %d", n, e)
		}
		if e := mark.Check(doc(mark.Node{Kind: n})); e != api.ErrKind {
			t.Errorf("kind %d: error %d", n, e)
		}
	}
}

// Z3, Z4 and Z8: the errors of one call in their order, nothing beside them, and no field that is not asked for.
func TestErrorsInOrder(t *testing.T) {
	two := doc(para(link("a", "", str("x")), image("b", "", "")))
	if l, e := mark.Relink(two, []string{"\x01"}); e != api.ErrForm || len(l) != 0 {
		t.Errorf("too few targets before a byte: %s, error %d", show(l), e)
	}
	if l, e := mark.Relink(two, []string{"c", "\x01"}); e != api.ErrByte || len(l) != 0 {
		t.Errorf("a byte: %s, error %d", show(l), e)
	}
	if l, e := mark.Nested([]mark.Entry{{Level: 1}, {Level: 2}, {Level: 0}}); e != api.ErrRange || len(l) != 0 {
		t.Errorf("Nested: %v, error %d", l, e)
	}
	for s, want := range map[string]api.Errno{
		strings.Repeat("\x01", api.MaxBody+1):                                api.ErrLarge,
		strings.Repeat(">", 13) + "\x01":                                     api.ErrByte,
		strings.Repeat("---\n", api.MaxNodes+1) + strings.Repeat(">", 13):    api.ErrDeep,
		strings.Repeat("---\n", api.MaxNodes+1):                              api.ErrLarge,
		strings.Repeat("---\n", api.MaxNodes) + strings.Repeat(">", 12):      api.ErrLarge,
		strings.Repeat("\n", api.MaxBody-14) + strings.Repeat("> ", 6) + "a": api.OK,
	} {
		if l, e := mark.Parse(s); e != want || e != api.OK && len(l) != 0 {
			t.Errorf("Parse(%s): error %d, want %d", short(s), e, want)
		}
	}
	c, e := mark.Contents(parsed(t, "> # *a* [b](c)"))
	if e != api.OK || !slices.Equal(c, []mark.Entry{{Level: 1, Id: "a-b", Text: "a b"}}) {
		t.Errorf("%+v, error %d", c, e)
	}
}
