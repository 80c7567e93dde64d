package lang_test

import (
	"fmt"
	"math"
	"math/rand"
	"reflect"
	"slices"
	"strings"
	"sync"
	"testing"
	"time"

	"masthead/api"
	"masthead/lang"
)

// arguments are those of all calls of callAll.
type arguments struct {
	all                            []lang.Language
	language                       lang.Language
	name, key, text, rule, pattern string
	first, second, dayText         string
	settings                       api.Value
	message                        lang.Message
	args                           []lang.Arg
	forms                          lang.Rule
	number, digits, day            int
	words                          []string
}

// results are all that calls return.
type results struct {
	chain, lacks, names  []string
	read                 lang.Language
	settings             api.Value
	found, from, said    string
	message              lang.Message
	positions            [2]int
	written, formatted   string
	forms                lang.Rule
	rule                 string
	numbers              [3]int // a form, a day, an order
	number, fixed, dayIn string
	sorted               []int
	initials             []lang.Initial
	facts                []api.Named
	errors               []api.Errno
}

// callAll calls each function.
func callAll(a arguments) results {
	var r results
	var e [23]api.Errno
	e[0] = lang.CheckChain(a.all)
	r.chain, e[1] = lang.Chain(a.all, a.name)
	r.read, e[2] = lang.ReadLanguage(a.name, a.settings)
	r.settings, e[3] = lang.LanguageValue(a.language)
	e[4] = lang.CheckLanguage(a.language)
	r.found, r.from, e[5] = lang.Lookup(a.all, a.name, a.key)
	r.said, e[6] = lang.Say(a.all, a.name, a.key, a.args)
	r.lacks, e[7] = lang.Lacks(a.all, a.name)
	r.message, r.positions[0], e[8] = lang.ReadMessage(a.text)
	r.written, e[9] = lang.MessageString(a.message)
	r.names, e[10] = lang.Arguments(a.message)
	r.formatted, e[11] = lang.Format(a.message, a.language, a.args)
	r.forms, r.positions[1], e[12] = lang.ReadRule(a.rule)
	r.rule, e[13] = lang.RuleString(a.forms)
	r.numbers[0], e[14] = lang.Form(a.forms, a.number)
	r.number, e[15] = lang.Number(a.language, a.number)
	r.fixed, e[16] = lang.Fixed(a.language, a.number, a.digits)
	r.dayIn, e[17] = lang.DayIn(a.language, a.pattern, a.day)
	r.numbers[1], e[18] = lang.ReadDayIn(a.language, a.pattern, a.dayText)
	r.numbers[2], e[19] = lang.Collate(a.language, a.first, a.second)
	r.sorted, e[20] = lang.SortIn(a.language, a.words)
	r.initials, e[21] = lang.Initials(a.language, a.words)
	r.facts, e[22] = lang.Facts(a.all)
	r.errors = e[:]
	return r
}

var strange = []string{"", "a", "de", "en", "at", "A", "a.b", "a.b.c", "hello", "x y", "\x00", "\xff", "\n", "{a}", "{", "}", `\`, "#", "{a, choose, x {} other {#}}", "{n, count, =0 {} 0 {#} other {}}", "n=1", "n=1..1", "n%0=1", "!(n=1 | n=2)", "(n=1", "yyyy-mm-dd", "d", "yyyy-MMMM-d", "WWWW", "2024-03-05", "ch", "ä", "1", wide(41), wide(9)}

func anyText(r *rand.Rand) string {
	s := strange[r.Intn(len(strange))]
	if r.Intn(4) == 0 {
		s += strange[r.Intn(len(strange))]
	}
	return s
}

func anyNumber(r *rand.Rand) int {
	return []int{0, 1, 2, 3, 7, -1, 8, 1000, math.MinInt, math.MaxInt}[r.Intn(10)]
}

func anyTexts(r *rand.Rand, most int) []string {
	var l []string
	for range r.Intn(most + 1) {
		l = append(l, anyText(r))
	}
	return l
}

func anyValue(r *rand.Rand) api.Value {
	v := []api.Value{{}, boolean(true), number(anyNumber(r)), text(anyText(r)), text(anyText(r)), day(anyNumber(r)), texts("a"), {Kind: api.Safe}}[r.Intn(8)]
	if r.Intn(20) == 0 {
		v.Bool = true
	}
	return v
}

// anyLanguage is a language that is right or not.
func anyLanguage(r *rand.Rand) lang.Language {
	l := [...]lang.Language{english(), german(), austrian()}[r.Intn(3)]
	switch r.Intn(12) {
	case 0:
		l.Name, l.Parent = anyText(r), anyText(r)
	case 1:
		l.Group, l.Point = anyText(r), anyText(r)
	case 2:
		l.Months = anyTexts(r, 12)
	case 3:
		l.Letters = anyTexts(r, 5)
	case 4:
		l.Strings[0].Text = anyText(r)
	case 5:
		l.Strings[0].Key = anyText(r)
	case 6:
		l.Rule = lang.Rule{Forms: tests(anyWrongTest(r, 3))}
	case 7:
		l.Days, l.Months = nil, nil
	}
	return l
}

func anyWrongTest(r *rand.Rand, levels int) lang.Test {
	t := anyTest(r, levels, 0)
	switch r.Intn(4) {
	case 0:
		t.Op = anyNumber(r)
	case 1:
		t.Low = anyNumber(r)
	case 2:
		t.Modulus = anyNumber(r)
	}
	return t
}

func anyWrongPieces(r *rand.Rand) []lang.Piece {
	l := anyPieces(r, 4, false)
	if len(l) > 0 && r.Intn(3) == 0 {
		p := &l[r.Intn(len(l))]
		switch r.Intn(4) {
		case 0:
			p.Kind = anyNumber(r)
		case 1:
			p.Text = anyText(r)
		case 2:
			p.Ways = append(p.Ways, lang.Way{Word: anyText(r), Exact: anyNumber(r), Form: anyNumber(r)})
		default:
			p.Ways = nil
		}
	}
	return l
}

// anyArguments are arguments that are right or not.
func anyArguments(r *rand.Rand) arguments {
	a := arguments{
		language: anyLanguage(r), name: []string{"en", "de", "at", anyText(r)}[r.Intn(4)], key: []string{"hello", "files", "top", "a.b.c", anyText(r)}[r.Intn(5)],
		text: anyText(r), rule: anyText(r), pattern: anyText(r), first: anyText(r), second: anyText(r), dayText: anyText(r),
		message: message(anyWrongPieces(r)...), forms: anyRule(r), number: anyNumber(r), digits: anyNumber(r), day: anyNumber(r), words: anyTexts(r, 6),
	}
	a.all = []lang.Language{english(), german(), austrian()}
	if r.Intn(3) == 0 {
		a.all = append(a.all[:r.Intn(3)], anyLanguage(r))
	}
	for _, name := range []string{"a", "b", "c", "n", "g", "who"} {
		if r.Intn(4) > 0 {
			a.args = append(a.args, arg(name, anyValue(r)))
		}
	}
	if r.Intn(8) == 0 {
		a.args = append(a.args, arg(anyText(r), anyValue(r)))
	}
	if r.Intn(4) == 0 {
		a.forms = lang.Rule{Forms: tests(anyWrongTest(r, 3), anyWrongTest(r, 3))}
	}
	a.settings, _ = lang.LanguageValue(a.language)
	if len(a.settings.Items) > 0 && r.Intn(2) == 0 {
		a.settings.Items[r.Intn(len(a.settings.Items))] = anyValue(r)
	}
	if r.Intn(3) == 0 {
		a.pattern, a.dayText = "yyyy-mm-d", []string{"2024-02-29", "2023-02-29", "2024-02-1"}[r.Intn(3)]
	}
	return a
}

// Z1: no call panics, whatever it is given.
func TestNothingPanics(t *testing.T) {
	r := rand.New(rand.NewSource(13))
	for range 8000 {
		callAll(anyArguments(r))
	}
	const many = 300_000
	for _, s := range []string{"a.", "{a}", "{n,count,other{", "!(", "n=1; ", "\\", "#", "d", "\x00", "1"} {
		s = strings.Repeat(s, many)
		l := lang.Language{Name: s, Parent: s, Group: s, Point: s, Months: slices.Repeat([]string{s}, 12), Days: slices.Repeat([]string{s}, 7), Letters: []string{s}, Strings: entries(s, s)}
		a := arguments{all: []lang.Language{l}, language: l, name: s, key: s, text: s, rule: s, pattern: s, first: s, second: s, dayText: s, settings: text(s), message: message(plain(s), insert(s)), args: args(s, text(s)), words: []string{s}}
		callAll(a)
		for _, change := range []func(l *lang.Language){func(l *lang.Language) { l.Group, l.Point = "", "" }, func(l *lang.Language) { l.Months, l.Days = nil, nil }, func(l *lang.Language) { l.Letters = nil }, func(l *lang.Language) { l.Strings[0].Key = "a" }, func(l *lang.Language) { l.Strings = nil }} {
			a.language.Name, a.language.Parent = "a", ""
			change(&a.language)
			callAll(a)
		}
	}
	callAll(arguments{all: make([]lang.Language, many), language: lang.Language{Name: "a", Letters: make([]string, many), Strings: make([]lang.Entry, many)}, settings: api.Value{Kind: api.List, Items: make([]api.Value, many)}, message: message(make([]lang.Piece, many)...), args: make([]lang.Arg, many), forms: rule(make([]lang.Test, many)...), words: make([]string, many)})
	callAll(arguments{language: lang.Language{Name: "a", Months: make([]string, many), Days: make([]string, many)}, message: message(choose("a", make([]lang.Way, many)...)), forms: rule(deepTest(many))})
	callAll(arguments{language: lang.Language{Name: "a", Rule: rule(deepTest(many))}, message: deepMessage(many)})
}

// full are arguments with which each function returns something.
func full() arguments {
	l := german()
	l.Parent = "en"
	settings, _ := lang.LanguageValue(l)
	return arguments{
		all: []lang.Language{english(), l, {Name: "x", Strings: entries("z", "Z")}}, language: l, name: "de", key: "hello", text: "{n, count, =0 {a} other {#{c, choose, x {b} other {}}}}", rule: "n=1 & n=2; !(n=3)", pattern: "d. MMMM yyyy", first: "a", second: "b", dayText: "5. März 2024",
		settings: settings, message: message(plain("a"), insert("who"), counted(hash(), chosen(plain("b"), insert("who")))), args: args("who", text("w"), "n", number(2000), "c", text("w")),
		forms: rule(within(1, 1), group(lang.Some, within(3, 3), group(lang.None, within(4, 5)))), number: 4000, digits: 2, day: 7, words: []string{"b", "ab", "a", "cha"},
	}
}

// span is the memory of a list, with what is after its length.
type span struct {
	from, to uintptr
	where    string
}

// spans are those of all lists in a value.
func spans(v reflect.Value, where string) []span {
	var l []span
	switch v.Kind() {
	case reflect.Struct:
		for i := range v.NumField() {
			l = append(l, spans(v.Field(i), where+"."+v.Type().Field(i).Name)...)
		}
	case reflect.Slice, reflect.Array:
		if v.Kind() == reflect.Slice && v.Cap() > 0 {
			l = append(l, span{v.Pointer(), v.Pointer() + uintptr(v.Cap())*v.Type().Elem().Size(), where})
		}
		for i := range v.Len() {
			l = append(l, spans(v.Index(i), fmt.Sprint(where, ".", i))...)
		}
	}
	return l
}

// Z2: arguments stay as they are, and results are in memory of their own, no two lists of them in the same.
func TestArgumentsAndResults(t *testing.T) {
	a := full()
	before := show(a)
	r := callAll(a)
	if slices.ContainsFunc(r.errors, func(e api.Errno) bool { return e != api.OK }) {
		t.Fatalf("errors %v", r.errors)
	}
	if after := show(a); after != before {
		t.Errorf("the arguments have changed:\n%s\n%s", before, after)
	}
	if got, want := show(callAll(a)), show(callAll(full())); got != want {
		t.Errorf("other results the second time:\n%s\n%s", want, got)
	}
	results := spans(reflect.ValueOf(r), "result")
	if len(results) < 30 {
		t.Errorf("only %d lists", len(results))
	}
	arguments := spans(reflect.ValueOf(a), "argument")
	for i, x := range results {
		for _, y := range slices.Concat(results[:i], arguments) {
			if x.from < y.to && y.from < x.to {
				t.Errorf("%s and %s share memory", x.where, y.where)
			}
		}
	}
}

// roomy is a list with something behind it, and whether that is still there.
func roomy[T any](l []T, behind T) ([]T, func() bool) {
	l = append(slices.Clone(l), behind)[:len(l)]
	return l, func() bool { return reflect.DeepEqual(l[:len(l)+1][len(l)], behind) }
}

// Z2: what is after the length of a list stays as it is.
func TestBehindLists(t *testing.T) {
	a := full()
	var same [14]func() bool
	l := &a.language
	a.all, same[0] = roomy(a.all, lang.Language{Name: "behind"})
	l.Rule.Forms, same[1] = roomy(l.Rule.Forms, within(7, 7))
	l.Months, same[2] = roomy(l.Months, "behind")
	l.Days, same[3] = roomy(l.Days, "behind")
	l.Letters, same[4] = roomy(l.Letters, "z")
	l.Strings, same[5] = roomy(l.Strings, lang.Entry{Key: "z"})
	a.settings.Keys, same[6] = roomy(a.settings.Keys, "z")
	a.settings.Items, same[7] = roomy(a.settings.Items, text("behind"))
	a.message.Pieces, same[8] = roomy(a.message.Pieces, insert("behind"))
	ways := a.message.Pieces[2].Ways
	a.message.Pieces[2].Ways, same[9] = roomy(ways, otherCount())
	a.args, same[10] = roomy(a.args, arg("behind", text("")))
	a.forms.Forms, same[11] = roomy(a.forms.Forms, within(8, 8))
	a.words, same[12] = roomy(a.words, "behind")
	a.forms.Forms[1].Kids, same[13] = roomy(a.forms.Forms[1].Kids, within(4, 4))
	a.all[1] = a.language
	if got, want := show(callAll(a)), show(callAll(full())); got != want {
		t.Errorf("what is behind lists counts:\n%s\n%s", got, want)
	}
	for i, same := range same {
		if !same() {
			t.Errorf("what is behind list %d has changed", i)
		}
	}
}

// Z3: beside an error all is zero, but positions in messages and rules.
func TestErrorsAlone(t *testing.T) {
	r := rand.New(rand.NewSource(14))
	var seen [23]int
	for range 8000 {
		x := callAll(anyArguments(r))
		none, nothing := show(lang.Language{}), show(api.Value{})
		zero := []bool{true, x.chain == nil, show(x.read) == none, show(x.settings) == nothing, true, x.found+x.from == "", x.said == "", x.lacks == nil, x.message.Pieces == nil, x.written == "", x.names == nil, x.formatted == "", x.forms.Forms == nil, x.rule == "", x.numbers[0] == 0,
			x.number == "", x.fixed == "", x.dayIn == "", x.numbers[1] == 0, x.numbers[2] == 0, x.sorted == nil, x.initials == nil, x.facts == nil}
		for i, e := range x.errors {
			if e != api.OK && !zero[i] {
				t.Fatalf("result %d beside error %d: %+v", i, e, x)
			}
			if e != api.OK {
				seen[i]++
			}
		}
		if e := x.errors[8]; e == api.OK && x.positions[0] != 0 {
			t.Fatalf("position %d of a message", x.positions[0])
		}
		if e := x.errors[12]; e != api.ErrSyntax && x.positions[1] != 0 {
			t.Fatalf("position %d of a rule", x.positions[1])
		}
	}
	if slices.Min(seen[:]) < 50 || slices.Max(seen[:]) > 7900 {
		t.Errorf("errors of the calls: %v", seen)
	}
}

// Z5: empty and nil lists are the same.
func TestEmptyLists(t *testing.T) {
	empty := lang.Language{Name: "x", Rule: lang.Rule{Forms: []lang.Test{}}, Months: []string{}, Days: []string{}, Letters: []string{}, Strings: []lang.Entry{}}
	kidless := within(1, 1)
	kidless.Kids = []lang.Test{}
	a := arguments{all: []lang.Language{empty}, language: empty, name: "x", settings: api.Value{Kind: api.Table, Keys: []string{}, Items: []api.Value{}}, message: message([]lang.Piece{{Text: "a", Ways: []lang.Way{}}, count("n", lang.Way{Form: lang.MaxForms + 1, Pieces: []lang.Piece{}})}...), args: args("n", number(1)), forms: rule(kidless), words: []string{}}
	bare := lang.Language{Name: "x"}
	b := arguments{all: []lang.Language{bare}, language: bare, name: "x", settings: table(), message: message(plain("a"), counted()), args: args("n", number(1)), forms: rule(within(1, 1))}
	r := callAll(b)
	if got, want := show(callAll(a)), show(r); got != want {
		t.Errorf("empty lists are not as nil ones are:\n%s\n%s", got, want)
	}
	for i, e := range r.errors {
		want := api.OK
		if i == 5 {
			want = api.ErrNone
		} else if i == 18 {
			want = api.ErrForm
		}
		if e != want {
			t.Errorf("call %d: error %d", i, e)
		}
	}
	a.message, a.args = message([]lang.Piece{}...), []lang.Arg{}
	b.message, b.args = message(), nil
	if got, want := show(callAll(a)), show(callAll(b)); got != want {
		t.Errorf("empty lists are not as nil ones are:\n%s\n%s", got, want)
	}
}

// Z7: the same arguments give the same results, in whatever order goroutines run.
func TestSameResults(t *testing.T) {
	r := rand.New(rand.NewSource(15))
	var all []arguments
	var want []string
	for range 300 {
		a := anyArguments(r)
		all, want = append(all, a), append(want, show(callAll(a)))
	}
	var wait sync.WaitGroup
	for range 8 {
		wait.Go(func() {
			for i, a := range all {
				if show(callAll(a)) != want[i] {
					t.Errorf("%+v has other results the second time", a)
				}
			}
		})
	}
	wait.Wait()
}

// manyNumbers is a message of as many ways as can be.
func manyNumbers() string {
	s := "{n,count,"
	for i := 0; len(s) < lang.MaxMessage-20; i++ {
		s += fmt.Sprintf("=%d{}", i)
	}
	return s + "other{}}"
}

// Z6: as much of everything as can be.
func TestLargeLanguages(t *testing.T) {
	begin := time.Now()
	var all []lang.Language
	for i := range lang.MaxLanguages {
		l := german()
		l.Name, l.Parent, l.Strings, l.Letters = string(rune('a'+i)), "", nil, nil
		if i > 0 {
			l.Parent = all[i-1].Name
		}
		for j := range lang.MaxLetters {
			l.Letters = append(l.Letters, fmt.Sprintf("%04d", j))
		}
		for j := range lang.MaxStrings {
			s := [...]string{"{n,count,other{" + strings.Repeat("#{a-b-c-d-e-f}", 45) + "}}", wide(lang.MaxMessage), manyNumbers()}[j%3]
			l.Strings = append(l.Strings, lang.Entry{Key: fmt.Sprintf("k%d.%sz%03d", i%4, strings.Repeat("a.", 190), j), Text: s})
		}
		all = append(all, l)
	}
	last := all[lang.MaxLanguages-1]
	facts, e := lang.Facts(all)
	expect(t, "facts", len(facts), e, lang.MaxStrings*(1+2+3+4*5), api.OK) // a language after the fourth one has no keys of its own
	lacks, e := lang.Lacks(all, all[0].Name)
	expect(t, "lacks", len(lacks), e, 3*lang.MaxStrings, api.OK)
	s, e := lang.Say(all, last.Name, all[0].Strings[0].Key, args("n", number(1), "a-b-c-d-e-f", text("x")))
	expect(t, "said", s, e, strings.Repeat("1x", 45), api.OK)
	_, e = lang.LanguageValue(last)
	expect(t, "value", nil, e, nil, api.ErrDeep)
	words := make([]string, lang.MaxWords)
	for i := range words {
		words[i] = strings.Repeat("0001", lang.MaxMessage/4-1) + fmt.Sprintf("%04d", i%200)
	}
	sorted, e := lang.SortIn(last, words)
	expect(t, "sorted", sorted[:6], e, []int{0, 200, 400, 600, 800, 1}, api.OK)
	initials, e := lang.Initials(last, words)
	expect(t, "initials", len(initials), e, 1, api.OK)
	if took := time.Since(begin); took > 20*time.Second {
		t.Errorf("that took %v", took)
	}
}
