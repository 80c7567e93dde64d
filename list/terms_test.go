package list_test

import (
	"fmt"
	"math/rand"
	"slices"
	"strings"
	"testing"

	"masthead/api"
	"masthead/conf"
	"masthead/list"
	"masthead/tree"
)

// P4.9: terms, their names, titles and items.
func TestTerms(t *testing.T) {
	l := items(t, `tags ["Go" "C#"]`, `tags "go"`, `x 1`, `tags ["c" "c" "C++"]; x "y"`, `tags []`, `tags nil`, `tags ["a b" "GO" "A-B"]`)
	got, e := list.Terms(l, "tags")
	expect(t, "tags", got, e, []list.Term{{Name: "a-b", Title: "a b", Items: []int{6}}, {Name: "c", Title: "C#", Items: []int{0, 3}}, {Name: "go", Title: "Go", Items: []int{0, 1, 6}}}, api.OK)
	got, e = list.Terms(l, "tags.0")
	expect(t, "first tags", got, e, []list.Term{{Name: "a-b", Title: "a b", Items: []int{6}}, {Name: "c", Title: "c", Items: []int{3}}, {Name: "go", Title: "Go", Items: []int{0}}}, api.OK)
	got, e = list.Terms([]api.Value{str("B"), listOf(str("a")), null(), str("b!")}, "")
	expect(t, "whole values", got, e, []list.Term{{Name: "a", Title: "a", Items: []int{1}}, {Name: "b", Title: "B", Items: []int{0, 3}}}, api.OK)
	long := wide(api.MaxPart)
	got, e = list.Terms([]api.Value{str(long + "a"), str(long + "b")}, "")
	expect(t, "long names", got, e, []list.Term{{Name: long, Title: long + "a", Items: []int{0, 1}}}, api.OK)
	got, e = list.Terms(l, "y")
	expect(t, "none", got, e, []list.Term{}, api.OK)
	got, e = list.Terms(nil, "tags")
	expect(t, "nothing", got, e, []list.Term{}, api.OK)
}

// P4.9: what names nothing.
func TestTermsErrors(t *testing.T) {
	for name, c := range map[string]struct {
		l    []api.Value
		want api.Errno
	}{
		"a number":              {[]api.Value{num(1)}, api.ErrKind},
		"no":                    {[]api.Value{truth(false)}, api.ErrKind},
		"a day":                 {[]api.Value{day(1)}, api.ErrKind},
		"a table":               {[]api.Value{table()}, api.ErrKind},
		"markup":                {[]api.Value{safe("a")}, api.ErrKind},
		"a fact":                {[]api.Value{str("a"), fact("a")}, api.ErrKind},
		"a list with a number":  {[]api.Value{listOf(str("a"), num(1))}, api.ErrKind},
		"a list with nil":       {[]api.Value{listOf(null())}, api.ErrKind},
		"a list with markup":    {[]api.Value{listOf(safe("a"))}, api.ErrKind},
		"a list of lists":       {[]api.Value{listOf(listOf(str("a")))}, api.ErrKind},
		"an empty string":       {[]api.Value{str("")}, api.ErrName},
		"no name":               {[]api.Value{str("a"), str("!")}, api.ErrName},
		"no name in a list":     {[]api.Value{listOf(str("a"), str("é"))}, api.ErrName},
		"a name first":          {[]api.Value{str("-"), num(1)}, api.ErrName},
		"a kind first":          {[]api.Value{num(1), str("-")}, api.ErrKind},
		"the list's error":      {[]api.Value{num(1), day(-1)}, api.ErrRange},
		"a name before a kind":  {[]api.Value{listOf(str("-")), listOf(num(1))}, api.ErrName},
		"all strings are names": {[]api.Value{listOf(str("-"), num(1))}, api.ErrKind},
	} {
		got, e := list.Terms(c.l, "")
		expect(t, name, got, e, []list.Term{}, c.want)
	}
}

// P4.9: random terms.
func TestRandomTerms(t *testing.T) {
	r := rand.New(rand.NewSource(7))
	for range 500 {
		var l []api.Value
		names, titles, numbers := []string{}, map[string]string{}, map[string][]int{}
		for i := range r.Intn(12) {
			v := listOf()
			for range r.Intn(4) {
				s := []string{"a", "A", "b", "B!", "a b", "a-b", "A  B", "c", "0", "ab"}[r.Intn(10)]
				v.Items = append(v.Items, str(s))
				name := tree.Slug(s)
				if !slices.Contains(names, name) {
					names, titles[name] = append(names, name), s
				}
				if !slices.Contains(numbers[name], i) {
					numbers[name] = append(numbers[name], i)
				}
			}
			l = append(l, table("t", v))
		}
		var want []list.Term
		for _, name := range slices.Sorted(slices.Values(names)) {
			want = append(want, list.Term{Name: name, Title: titles[name], Items: numbers[name]})
		}
		got, e := list.Terms(l, "t")
		expect(t, "random terms", got, e, want, api.OK)
	}
}

// P4.10: addresses of terms.
func TestTermAddress(t *testing.T) {
	long := "/" + strings.Repeat(strings.Repeat("a", 39)+"/", 4) // 161 bytes
	for _, c := range []struct {
		base, name, want string
		e                api.Errno
	}{
		{"/tags/", "a", "/tags/a/", api.OK}, {"/", "a-b.c_d", "/a-b.c_d/", api.OK}, {long, wide(40), long + wide(40) + "/", api.OK}, {"/", wide(40), "/" + wide(40) + "/", api.OK},
		{"/tags", "a", "", api.ErrPath}, {"tags/", "a", "", api.ErrPath}, {"", "a", "", api.ErrPath}, {"//", "a", "", api.ErrPath}, {"/A/", "a", "", api.ErrPath},
		{"/tags/", "", "", api.ErrPath}, {"/tags/", "a/b", "", api.ErrPath}, {"/tags/", "A", "", api.ErrPath}, {"/tags/", "..", "", api.ErrPath}, {"/tags/", ".", "", api.ErrPath}, {"/tags/", "a/", "", api.ErrPath}, {"/tags/", "/a", "", api.ErrPath}, {"/tags/", wide(41), "", api.ErrPath},
		{long + "b/", wide(39), "", api.ErrPath}, {long + "b/", wide(38), long + "b/" + wide(38) + "/", api.OK},
	} {
		got, e := list.TermAddress(c.base, c.name)
		expect(t, c.base+" "+c.name, got, e, c.want, c.e)
	}
}

// terms are ones with so many items.
func terms(counts ...int) []list.Term {
	var l []list.Term
	for _, n := range counts {
		l = append(l, list.Term{Items: make([]int, n)})
	}
	return l
}

// P4.10: steps of a cloud.
func TestCloud(t *testing.T) {
	for _, c := range []struct {
		counts []int
		steps  int
		want   []int
		e      api.Errno
	}{
		{[]int{1, 3, 2}, 6, []int{0, 4, 2}, api.OK}, {[]int{5, 5}, 100, []int{0, 0}, api.OK}, {[]int{7}, 3, []int{0}, api.OK}, {[]int{0, 9, 4, 5}, 10, []int{0, 9, 4, 5}, api.OK}, {[]int{10, 12, 11, 13}, 3, []int{0, 1, 0, 2}, api.OK}, {[]int{0, 1000, 999}, 1, []int{0, 0, 0}, api.OK}, {[]int{0, 100_000}, 100, []int{0, 99}, api.OK},
		{nil, 1, nil, api.OK}, {nil, 100, nil, api.OK}, {nil, 0, nil, api.ErrRange}, {nil, 101, nil, api.ErrRange}, {[]int{1, 2}, -1, nil, api.ErrRange}, {[]int{1, 2}, 1 << 62, nil, api.ErrRange},
		{make([]int, list.MaxList), 1, make([]int, list.MaxList), api.OK}, {make([]int, list.MaxList+1), 0, nil, api.ErrLarge},
	} {
		got, e := list.Cloud(terms(c.counts...), c.steps)
		if c.want == nil {
			c.want = []int{}
		}
		expect(t, short(show(c.counts))+" in "+show(c.steps), got, e, c.want, c.e)
	}
	got, e := list.Cloud([]list.Term{{Name: "//", Title: "\x00", Items: []int{-1, -1}}, {Name: "//"}}, 9)
	expect(t, "any terms", got, e, []int{6, 0}, api.OK)
}

// P4.10: facts of terms.
func TestTermFacts(t *testing.T) {
	l := []list.Term{{Name: "a", Title: "A", Items: []int{0, 2}}, {Name: "a-b", Title: "a\tb\n"}, {Name: "b", Items: []int{1}}}
	names := []string{"page:/", "page:/x/", "anything \x00"}
	fact1 := table("address", str("/t/a-b/"), "count", num(0), "items", listOf(), "kind", str("tags"), "name", str("a-b"), "title", str("a\tb\n"))
	fact2 := table("address", str("/t/a/"), "count", num(2), "items", listOf(fact("page:/"), fact("anything \x00")), "kind", str("tags"), "name", str("a"), "title", str("A"))
	fact3 := table("address", str("/t/b/"), "count", num(1), "items", listOf(fact("page:/x/")), "kind", str("tags"), "name", str("b"), "title", str(""))
	got, e := list.TermFacts("tags", "/t/", l, names)
	expect(t, "tags", got, e, []api.Named{{Name: "term:/t/a-b/", Value: fact1}, {Name: "term:/t/a/", Value: fact2}, {Name: "term:/t/b/", Value: fact3}, {Name: "terms:tags", Value: listOf(fact("term:/t/a-b/"), fact("term:/t/a/"), fact("term:/t/b/"))}}, api.OK)
	got, e = list.TermFacts("a_1-b", "/", nil, nil)
	expect(t, "none", got, e, []api.Named{{Name: "terms:a_1-b", Value: listOf()}}, api.OK)
	full, e := list.TermFacts(wide(api.MaxPart), "/", []list.Term{{Name: "a", Title: wide(conf.MaxString)}}, make([]string, list.MaxList))
	if e != api.OK || len(full) != 2 {
		t.Errorf("as much as can be: %d, error %d", len(full), e)
	}
	var most []list.Term
	for i := range list.MaxList {
		most = append(most, list.Term{Name: fmt.Sprintf("t%04d", i)})
	}
	full, e = list.TermFacts("tags", "/", most, nil)
	if e != api.OK || len(full) != list.MaxList+1 || full[1].Name != "term:/t0001/" || len(full[list.MaxList].Value.Items) != list.MaxList {
		t.Errorf("as many as can be: %d, error %d", len(full), e)
	}
}

// P4.10: what is wrong with terms.
func TestTermFactsErrors(t *testing.T) {
	names := []string{"x", "y", "z"}
	long := "/" + strings.Repeat(strings.Repeat("a", 39)+"/", 4) + "b/"
	bad := list.Term{Name: "", Title: wide(conf.MaxString + 1), Items: []int{-1}}
	for name, c := range map[string]struct {
		kind, base string
		l          []list.Term
		names      []string
		want       api.Errno
	}{
		"a kind":                  {"Tags", "x", make([]list.Term, list.MaxList+1), nil, api.ErrName},
		"an empty kind":           {"", "/", nil, nil, api.ErrName},
		"a kind with a point":     {"a.b", "/", nil, nil, api.ErrName},
		"a long kind":             {wide(api.MaxPart + 1), "/", nil, nil, api.ErrName},
		"a base":                  {"tags", "x", make([]list.Term, list.MaxList+1), nil, api.ErrPath},
		"an empty base":           {"tags", "", nil, nil, api.ErrPath},
		"too many terms":          {"tags", "/", make([]list.Term, list.MaxList+1), nil, api.ErrLarge},
		"too many names":          {"tags", "/", []list.Term{bad}, make([]string, list.MaxList+1), api.ErrLarge},
		"a name":                  {"tags", "/", []list.Term{bad}, names, api.ErrPath},
		"a long address":          {"tags", long, []list.Term{{Name: wide(39)}}, names, api.ErrPath},
		"the order":               {"tags", "/", []list.Term{{Name: "b"}, {Name: "a", Title: "\x00"}}, names, api.ErrOrder},
		"a name twice":            {"tags", "/", []list.Term{{Name: "b"}, {Name: "b"}}, names, api.ErrOrder},
		"a long title":            {"tags", "/", []list.Term{{Name: "b", Title: "\x00" + wide(conf.MaxString)}}, names, api.ErrLarge},
		"a byte":                  {"tags", "/", []list.Term{{Name: "b", Title: "a\r", Items: []int{7}}}, names, api.ErrByte},
		"no position":             {"tags", "/", []list.Term{{Name: "b", Items: []int{0, 3}}}, names, api.ErrRange},
		"a position below 0":      {"tags", "/", []list.Term{{Name: "b", Items: []int{-1}}}, names, api.ErrRange},
		"a far one":               {"tags", "/", []list.Term{{Name: "b", Items: []int{1 << 62}}}, names, api.ErrRange},
		"no names":                {"tags", "/", []list.Term{{Name: "b", Items: []int{0}}}, nil, api.ErrRange},
		"positions not in order":  {"tags", "/", []list.Term{{Name: "b", Items: []int{1, 0}}}, names, api.ErrOrder},
		"a position twice":        {"tags", "/", []list.Term{{Name: "b", Items: []int{1, 1}}}, names, api.ErrOrder},
		"an order before a range": {"tags", "/", []list.Term{{Name: "b", Items: []int{1, 0, 7}}}, names, api.ErrOrder},
		"a range before an order": {"tags", "/", []list.Term{{Name: "b", Items: []int{1, 7, 0}}}, names, api.ErrRange},
		"below 0 before an order": {"tags", "/", []list.Term{{Name: "b", Items: []int{1, -1}}}, names, api.ErrRange},
		"an earlier term first":   {"tags", "/", []list.Term{{Name: "b", Items: []int{3}}, {Name: "a"}}, names, api.ErrRange},
		"a later term":            {"tags", "/", []list.Term{{Name: "b", Items: []int{2}}, {Name: "c", Title: "\x01"}}, names, api.ErrByte},
	} {
		got, e := list.TermFacts(c.kind, c.base, c.l, c.names)
		expect(t, name, got, e, []api.Named{}, c.want)
	}
}
