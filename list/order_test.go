package list_test

import (
	"math"
	"math/rand"
	"slices"
	"testing"

	"masthead/api"
	"masthead/conf"
	"masthead/list"
)

// pages are items with some of a date, a title and a weight.
func pages(t *testing.T) []api.Value {
	return items(t, `date 2024-03-01; title "B"; weight 2`, `date 2023-12-31; title "A"; weight 1`, `date 2024-01-05; title "C"; weight 2`, `title "A"`, `date 2024-03-01; weight nil`)
}

// P4.5: the order of keys.
func TestSort(t *testing.T) {
	for name, c := range map[string]struct {
		keys []list.Key
		want []int
	}{
		"no keys":           {nil, []int{0, 1, 2, 3, 4}},
		"a key":             {[]list.Key{{Route: "date"}}, []int{1, 2, 0, 4, 3}},
		"down":              {[]list.Key{{Route: "date", Down: true}}, []int{0, 4, 2, 1, 3}},
		"what is not there": {[]list.Key{{Route: "weight"}}, []int{1, 0, 2, 3, 4}},
		"nor that down":     {[]list.Key{{Route: "weight", Down: true}}, []int{0, 2, 1, 3, 4}},
		"two keys":          {[]list.Key{{Route: "title"}, {Route: "weight", Down: true}}, []int{1, 3, 0, 2, 4}},
		"nil in the second": {[]list.Key{{Route: "date", Down: true}, {Route: "title"}}, []int{0, 4, 2, 1, 3}},
		"nil in the first":  {[]list.Key{{Route: "weight", Down: true}, {Route: "date", Down: true}}, []int{0, 2, 1, 4, 3}},
		"a key twice":       {[]list.Key{{Route: "title"}, {Route: "title", Down: true}}, []int{1, 3, 0, 2, 4}},
		"nothing there":     {[]list.Key{{Route: "x"}, {Route: "0", Down: true}}, []int{0, 1, 2, 3, 4}},
		"as many keys":      {slices.Repeat([]list.Key{{Route: "date"}}, list.MaxKeys), []int{1, 2, 0, 4, 3}},
	} {
		got, e := list.Sort(pages(t), c.keys)
		expect(t, name, got, e, c.want, api.OK)
	}
	kinds := []api.Value{fact("a"), safe("a"), table(), listOf(), day(0), str(""), num(5), truth(true), null(), truth(false), num(-1), str("a")}
	got, e := list.Sort(kinds, []list.Key{{}})
	expect(t, "kinds", got, e, []int{9, 7, 10, 6, 5, 11, 4, 3, 2, 1, 0, 8}, api.OK)
	got, e = list.Sort(kinds, []list.Key{{Down: true}})
	expect(t, "kinds down", got, e, []int{0, 1, 2, 3, 4, 11, 5, 6, 10, 7, 9, 8}, api.OK)
	got, e = list.Sort(nil, []list.Key{{Route: "a"}})
	expect(t, "nothing", got, e, []int{}, api.OK)
}

// P4.5: what is wrong with keys.
func TestSortErrors(t *testing.T) {
	bad := slices.Repeat([]list.Key{{Route: "A"}}, list.MaxKeys+1)
	for name, c := range map[string]struct {
		l    []api.Value
		keys []list.Key
		want api.Errno
	}{
		"a list first":  {[]api.Value{day(-1)}, bad, api.ErrRange},
		"too many keys": {nil, bad, api.ErrLarge},
		"a route":       {nil, bad[:1], api.ErrPath},
		"a later route": {[]api.Value{num(1)}, []list.Key{{Route: "a"}, {Route: "a."}}, api.ErrPath},
	} {
		got, e := list.Sort(c.l, c.keys)
		expect(t, name, got, e, []int{}, c.want)
	}
}

// at is what a value has at a route, as conf says it.
func at(v api.Value, route string) api.Value {
	x, _ := conf.Get(v, route)
	return x
}

// confItems are random items that are values of settings.
func confItems(r *rand.Rand, most int) []api.Value {
	return slices.DeleteFunc(randomItems(r, most), func(v api.Value) bool { return conf.Check(v) != api.OK })
}

// P4.5: in random orders no two positions are the wrong way round.
func TestRandomSort(t *testing.T) {
	r := rand.New(rand.NewSource(4))
	for range 1000 {
		l := confItems(r, 30)
		keys := []list.Key{{Route: randomRoute(r), Down: r.Intn(2) == 0}, {Route: randomRoute(r), Down: r.Intn(2) == 0}}
		got, e := list.Sort(l, keys)
		if e != api.OK || len(got) != len(l) {
			t.Fatalf("%s, error %d", show(got), e)
		}
		for n := 1; n < len(got); n++ {
			i, j := got[n-1], got[n]
			order := 0
			for _, key := range keys {
				a, b := at(l[i], key.Route), at(l[j], key.Route)
				c := conf.Compare(a, b)
				if key.Down || a.Kind == api.Nil || b.Kind == api.Nil { // Nil is the least kind, but comes last
					c = -c
				}
				if order == 0 {
					order = c
				}
			}
			if order > 0 || order == 0 && i > j {
				t.Fatalf("%d comes before %d: %s", i, j, show(got))
			}
		}
	}
}

// P4.6: groups of equal values.
func TestGroups(t *testing.T) {
	got, e := list.Groups(pages(t), "weight")
	expect(t, "weights", got, e, []list.Group{{Value: num(2), Items: []int{0, 2}}, {Value: num(1), Items: []int{1}}, {Items: []int{3, 4}}}, api.OK)
	got, e = list.Groups(pages(t), "title")
	expect(t, "titles", got, e, []list.Group{{Value: str("B"), Items: []int{0}}, {Value: str("A"), Items: []int{1, 3}}, {Value: str("C"), Items: []int{2}}, {Items: []int{4}}}, api.OK)
	l := []api.Value{str("1"), num(1), day(1), safe("1"), fact("1"), listOf(num(1)), num(1), listOf(num(1)), table("a", fact("x")), table("a", fact("y")), table("a", fact("x"))}
	got, e = list.Groups(l, "")
	want := []list.Group{{Value: l[0], Items: []int{0}}, {Value: l[1], Items: []int{1, 6}}, {Value: l[2], Items: []int{2}}, {Value: l[3], Items: []int{3}}, {Value: l[4], Items: []int{4}}, {Value: l[5], Items: []int{5, 7}}, {Value: l[8], Items: []int{8, 10}}, {Value: l[9], Items: []int{9}}}
	expect(t, "whole values", got, e, want, api.OK)
	got, e = list.Groups(nil, "a")
	expect(t, "nothing", got, e, []list.Group{}, api.OK)
}

// P4.6: the first position of each group.
func TestUnique(t *testing.T) {
	for route, want := range map[string][]int{"title": {0, 1, 2, 4}, "weight": {0, 1, 3}, "date": {0, 1, 2, 3}, "x": {0}, "": {0, 1, 2, 3, 4}} {
		got, e := list.Unique(pages(t), route)
		expect(t, route, got, e, want, api.OK)
	}
	got, e := list.Unique(nil, "a")
	expect(t, "nothing", got, e, []int{}, api.OK)
}

// P4.6: random groups.
func TestRandomGroups(t *testing.T) {
	r := rand.New(rand.NewSource(5))
	for range 1000 {
		l, route := confItems(r, 30), randomRoute(r)
		var want []list.Group
		var firsts []int
		for i, v := range l {
			x := at(v, route)
			n := slices.IndexFunc(want, func(g list.Group) bool { return show(g.Value) == show(x) })
			if n < 0 {
				n = len(want)
				want, firsts = append(want, list.Group{Value: x}), append(firsts, i)
			}
			want[n].Items = append(want[n].Items, i)
		}
		got, e := list.Groups(l, route)
		expect(t, "Groups", got, e, want, api.OK)
		unique, e := list.Unique(l, route)
		expect(t, "Unique", unique, e, firsts, api.OK)
	}
}

// P4.6: years and months, the latest first.
func TestPeriods(t *testing.T) {
	l := items(t, "d 2024-01-31", "d 2023-05-02", "d 2024-02-01", "d 2024-01-31", "d \"2024-01-31\"", "x 1", "d 2023-05-03", "d 2024-01-01", "d 19000", "d 1970-01-01", "d 2199-12-31", "d [2024-01-31]")
	got, e := list.Periods(l, "d")
	expect(t, "days", got, e, []list.Period{
		{Year: 2199, Items: []int{10}}, {Year: 2199, Month: 12, Items: []int{10}},
		{Year: 2024, Items: []int{2, 0, 3, 7}}, {Year: 2024, Month: 2, Items: []int{2}}, {Year: 2024, Month: 1, Items: []int{0, 3, 7}},
		{Year: 2023, Items: []int{6, 1}}, {Year: 2023, Month: 5, Items: []int{6, 1}},
		{Year: 1970, Items: []int{9}}, {Year: 1970, Month: 1, Items: []int{9}},
	}, api.OK)
	got, e = list.Periods(items(t, "d 2024-05-01", "d 2023-05-01"), "d")
	expect(t, "one month of two years", got, e, []list.Period{{Year: 2024, Items: []int{0}}, {Year: 2024, Month: 5, Items: []int{0}}, {Year: 2023, Items: []int{1}}, {Year: 2023, Month: 5, Items: []int{1}}}, api.OK)
	got, e = list.Periods([]api.Value{day(31), day(0)}, "")
	expect(t, "two months", got, e, []list.Period{{Year: 1970, Items: []int{0, 1}}, {Year: 1970, Month: 2, Items: []int{0}}, {Year: 1970, Month: 1, Items: []int{1}}}, api.OK)
	got, e = list.Periods(l, "x")
	expect(t, "no days", got, e, []list.Period{}, api.OK)
	got, e = list.Periods(nil, "d")
	expect(t, "nothing", got, e, []list.Period{}, api.OK)
}

// P4.8: sums, of which parts can be too great.
func TestSum(t *testing.T) {
	greatest, least := slices.Repeat([]int{math.MaxInt}, 900), slices.Repeat([]int{math.MinInt}, 899)
	for name, c := range map[string]struct {
		l    []int
		want int
		e    api.Errno
	}{
		"nothing":             {nil, 0, api.OK},
		"some":                {[]int{1, -5, 3}, -1, api.OK},
		"the greatest":        {[]int{math.MaxInt}, math.MaxInt, api.OK},
		"the least":           {[]int{math.MinInt}, math.MinInt, api.OK},
		"one more":            {[]int{math.MaxInt, 1}, 0, api.ErrRange},
		"one less":            {[]int{-1, math.MinInt}, 0, api.ErrRange},
		"more in between":     {[]int{math.MaxInt, 1, -1}, math.MaxInt, api.OK},
		"less in between":     {[]int{math.MinInt, math.MinInt, math.MaxInt, 2}, math.MinInt + 1, api.OK},
		"both":                {[]int{math.MinInt, math.MaxInt}, -1, api.OK},
		"2^64":                {slices.Repeat([]int{1 << 62}, 4), 0, api.ErrRange},
		"-2^64":               {slices.Repeat([]int{math.MinInt}, 2), 0, api.ErrRange},
		"far too great":       {greatest, 0, api.ErrRange},
		"far too little":      {least, 0, api.ErrRange},
		"the greatest of all": {slices.Concat(greatest, least, []int{899}), math.MaxInt, api.OK},
		"one more of all":     {slices.Concat(greatest, least, []int{900}), 0, api.ErrRange},
		"less first":          {slices.Concat(least, greatest, []int{-math.MaxInt}), -899, api.OK},
	} {
		l := items(t, "x 7", "n nil", "n \"8\"", "n 1970-01-09", "n [9]", "n yes")
		for _, n := range c.l {
			l = append(l, table("n", num(n)))
		}
		got, e := list.Sum(l, "n")
		expect(t, name, got, e, c.want, c.e)
	}
}

// P4.8: the first positions of the least and the greatest value.
func TestExtremes(t *testing.T) {
	for name, c := range map[string]struct {
		l               []api.Value
		route           string
		least, greatest int
		e               api.Errno
	}{
		"dates":        {pages(t), "date", 1, 0, api.OK},
		"weights":      {pages(t), "weight", 1, 0, api.OK},
		"titles":       {pages(t), "title", 1, 2, api.OK},
		"one":          {[]api.Value{null(), num(1), null()}, "", 1, 1, api.OK},
		"equal ones":   {[]api.Value{null(), num(1), num(1), num(1)}, "", 1, 1, api.OK},
		"kinds":        {[]api.Value{str("a"), num(9), fact(""), truth(true), safe("z")}, "", 3, 2, api.OK},
		"first ones":   {[]api.Value{num(2), num(1), num(2), num(1)}, "", 1, 0, api.OK},
		"none":         {pages(t), "x", 0, 0, api.ErrNone},
		"nil":          {[]api.Value{null(), null()}, "", 0, 0, api.ErrNone},
		"nothing":      {nil, "a", 0, 0, api.ErrNone},
		"a list first": {[]api.Value{day(-1)}, "A", 0, 0, api.ErrRange},
		"then a route": {nil, "A", 0, 0, api.ErrPath},
	} {
		least, greatest, e := list.Extremes(c.l, c.route)
		expect(t, name, []int{least, greatest}, e, []int{c.least, c.greatest}, c.e)
	}
}
